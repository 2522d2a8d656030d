/- Words on bytes and numbers, out of several texts made one. -/
import Derived.Test.YtiiollgipfggmaaNAwake
import Derived.Test.YtiiollgipfggmaaWRec
import Derived.Test.YtiiollgipfggmaaWPick
import Derived.Deep.Matrix
import Derived.Deep.Fields
import Derived.ChangeOld
import Derived.OpenShut
import Derived.SizedLaws
/- A message's bytes as a record: the program's Put. -/
namespace Go.Proofs.Ytiiollgipfggmaa
set_option linter.unusedVariables false
set_option linter.unusedSimpArgs false
open Go.RowKit

/-- What Put says. -/
def putL (m : Ms) : List UInt8 := if okM m then recL (payL m) else []
def PutPost (w : World) (m : Ms) (e : Ending) (w' : World) : Prop := ∃ v, e = .returned (.tuple #[v, .int .i64 (chkM m)]) ∧ Own w.heap.size w' v (putL m) ∧ Below w.heap.size w w'
set_option maxRecDepth 200000 in
set_option maxHeartbeats 4000000 in
theorem put_any {w : World} {m : Ms} {ve vv vd : Value} (h : MsV w m ve vv vd) : Calls Try.prog 13 #[msA m ve vv vd] w (PutPost w m) := by
  obtain ⟨pe, ne, ce, rfl⟩ := h.es.sl
  obtain ⟨pv, nv, cv, rfl⟩ := h.vs.sl
  obtain ⟨pd, nd, cd, rfl⟩ := h.d.sl
  have HCK := hide (fun W (hW : Below w.heap.size w W) => checkM_any (h.below hW))
  have HPY := hide (fun (ok : okM m = true) W (hW : Below w.heap.size w W) => payload_any (h.below hW) ok)
  have HLN := hide (fun ok : okM m = true => (⟨ok, h.fits, h.es.fits, h.vs.fits⟩ : MIn m).len)
  have HB0 := hide ((Below.refl w.heap.size w).alloc (Nat.le_refl _) (.cells #[.int .i64 m.k, .int .i64 m.f, .int .i64 m.t, .int .i64 m.tm, .int .i64 m.ix, .int .i64 m.lt, .int .i64 m.cm, .int .i64 m.rd, .bool m.ys, .bool m.dn, .slice pe ne ce, .slice pv nv cv, .slice pd nd cd] 26))
  have HX0 := hide (Box13.new w 26 (.int .i64 m.k) (.int .i64 m.f) (.int .i64 m.t) (.int .i64 m.tm) (.int .i64 m.ix) (.int .i64 m.lt) (.int .i64 m.cm) (.int .i64 m.rd) (.bool m.ys) (.bool m.dn) (.slice pe ne ce) (.slice pv nv cv) (.slice pd nd cd))
  unfold PutPost putL
  unfold chkM at HCK ⊢
  unfold msA at HCK HPY ⊢
  clear h
  obtain ⟨q, hq⟩ : ∃ q, okM m = q := ⟨_, rfl⟩
  rw [hq] at HCK HPY HLN ⊢
  cases q with
  | false =>
    simp only [Bool.false_eq_true, if_false] at HCK ⊢
    go_enter Try.func13, Try.ntmps13
    obtain ⟨y0, y1, y2, y3, y4, y5, y6, y7, y8, y9, y10, y11, y12⟩ := HX0.out
    go_wp2_with fail
    refine (HCK.out _ HB0.out).mono ?_
    rintro e w3 ⟨rfl, hb3⟩
    have HB3 := hide (HB0.out.trans (hb3.mono HB0.out.size))
    clear hb3
    go_wp2
    refine bodyPost_ret (v := .tuple #[.slice none 0 0, .int .i64 122]) (by simp [results, Try.results13, go_sem]) rfl ⟨_, rfl, Own.nil _ _, HB3.out⟩
  | true =>
    simp only [if_true] at HCK ⊢
    have HP := hide (HPY.out rfl)
    have HL := hide (HLN.out rfl)
    go_enter Try.func13, Try.ntmps13
    obtain ⟨y0, y1, y2, y3, y4, y5, y6, y7, y8, y9, y10, y11, y12⟩ := HX0.out
    go_wp2_with fail
    refine (HCK.out _ HB0.out).mono ?_
    rintro e w3 ⟨rfl, hb3⟩
    have HB3 := hide (HB0.out.trans (hb3.mono HB0.out.size))
    obtain ⟨z0, z1, z2, z3, z4, z5, z6, z7, z8, z9, z10, z11, z12⟩ := HX0.out.below hb3
    clear hb3
    go_wp2_with fail
    refine (HP.out _ HB3.out).mono ?_
    rintro e w4 ⟨v4, rfl, ho4, hb4⟩
    have HB4 := hide (HB3.out.trans (hb4.mono HB3.out.size))
    have HRC := hide (wireRecord_any ho4.by_ (by have := HL.out; omega))
    obtain ⟨p4, n4, c4, rfl⟩ := ho4.by_.sl
    clear hb4 ho4
    go_wp2_with fail
    refine HRC.out.mono ?_
    rintro e w5 ⟨v5, rfl, ho5, hb5⟩
    have HB5 := hide (HB4.out.trans (hb5.mono HB4.out.size))
    have HO5 := hide (ho5.mono HB4.out.size)
    obtain ⟨p5, n5, c5, rfl⟩ := ho5.by_.sl
    clear hb5 ho5
    go_wp2
    refine bodyPost_ret (v := .tuple #[.slice p5 n5 c5, .int .i64 0]) (by simp [results, Try.results13, go_sem]) rfl ⟨_, rfl, HO5.out, HB5.out⟩
end Go.Proofs.Ytiiollgipfggmaa
/- The message whose bytes some bytes are: the program's Get. -/
namespace Go.Proofs.Ytiiollgipfggmaa
set_option linter.unusedVariables false
set_option linter.unusedSimpArgs false
open Go.RowKit

def getI (l : List UInt8) : Ms × Int :=
  if (pickL l).2.2 ≠ 0 then (ms0, ((pickL l).2.2 : Int)) else if (pickL l).2.1 < l.length then (ms0, 3) else
  if okM (readP (pickL l).1) && (payL (readP (pickL l).1) == (pickL l).1) then (readP (pickL l).1, 0) else (ms0, 122)
set_option maxRecDepth 200000 in
set_option maxHeartbeats 4000000 in
theorem get_any {w : World} {v : Value} {l : List UInt8} (hv : By w v l) : Calls Try.prog 18 #[v] w (PeekPost w (getI l)) := by
  obtain ⟨p, n, c, rfl⟩ := hv.sl
  obtain ⟨X, hX⟩ : ∃ X, w.alloc (.cells #[.int .i64 0, .int .i64 0, .int .i64 0, .int .i64 0, .int .i64 0, .int .i64 0, .int .i64 0, .int .i64 0, .bool false, .bool false, .slice none 0 0, .slice none 0 0, .slice none 0 0] 26) = X := ⟨_, rfl⟩
  have hrX : X.heap[w.heap.size]? = some (.cells #[.int .i64 0, .int .i64 0, .int .i64 0, .int .i64 0, .int .i64 0, .int .i64 0, .int .i64 0, .int .i64 0, .bool false, .bool false, .slice none 0 0, .slice none 0 0, .slice none 0 0] 26 (0, 0)) := by rw [← hX]; exact heap_alloc_new w _
  have hbX : Below w.heap.size w X := by rw [← hX]; exact (Below.refl _ _).alloc (Nat.le_refl _) _
  have hwX : w.heap.size < X.heap.size := (Array.getElem?_eq_some_iff.1 hrX).1
  obtain ⟨P, K, E, hP⟩ : ∃ P K E, pickL l = (P, K, E) := ⟨_, _, _, rfl⟩
  have HPK := hide (wirePick_any (hv.below hbX) hP)
  have hln := hv.len.1
  have HPO := hide (fun e : E = 0 => pick_ok (b := l) (p := P) (k := K) (by rw [hP, e]))
  have HRX := hide hrX
  have HBX := hide hbX
  have HWX := hide hwX
  have HX := hide hX
  unfold getI
  rw [hP]
  dsimp only
  clear hv hrX hbX hwX hX hP
  by_cases hE : E = 0
  · have HQ := HPO.out hE
    have HLP := hide HQ.2.2.1
    have hKl := HQ.1
    subst hE
    rw [if_neg (by omega)]
    clear HQ HPO
    by_cases hK : K < l.length
    · rw [if_pos hK]
      have hKn : (K : Int) < (n : Int) := by omega
      clear hK hln hKl HLP
      go_enter Try.func18, Try.ntmps18
      go_wp2_with fail
      rw [HX.out]
      refine HPK.out.mono ?_
      rintro e w2 ⟨v2, rfl, ho2, hb2⟩
      obtain ⟨p2, n2, c2, rfl⟩ := ho2.by_.sl
      have hR2 := (hb2.block _ HWX.out).trans HRX.out
      have HB2 := hide (HBX.out.trans (hb2.mono HBX.out.size))
      have m0 := cell_of_row w2 w.heap.size 0 _ 26 (0, 0) hR2
      have mf0 := frozen_of_row w2 w.heap.size 0 _ 26 hR2
      have m1 := cell_of_row w2 w.heap.size 1 _ 26 (0, 0) hR2
      have mf1 := frozen_of_row w2 w.heap.size 1 _ 26 hR2
      have m2 := cell_of_row w2 w.heap.size 2 _ 26 (0, 0) hR2
      have mf2 := frozen_of_row w2 w.heap.size 2 _ 26 hR2
      have m3 := cell_of_row w2 w.heap.size 3 _ 26 (0, 0) hR2
      have mf3 := frozen_of_row w2 w.heap.size 3 _ 26 hR2
      have m4 := cell_of_row w2 w.heap.size 4 _ 26 (0, 0) hR2
      have mf4 := frozen_of_row w2 w.heap.size 4 _ 26 hR2
      have m5 := cell_of_row w2 w.heap.size 5 _ 26 (0, 0) hR2
      have mf5 := frozen_of_row w2 w.heap.size 5 _ 26 hR2
      have m6 := cell_of_row w2 w.heap.size 6 _ 26 (0, 0) hR2
      have mf6 := frozen_of_row w2 w.heap.size 6 _ 26 hR2
      have m7 := cell_of_row w2 w.heap.size 7 _ 26 (0, 0) hR2
      have mf7 := frozen_of_row w2 w.heap.size 7 _ 26 hR2
      have m8 := cell_of_row w2 w.heap.size 8 _ 26 (0, 0) hR2
      have mf8 := frozen_of_row w2 w.heap.size 8 _ 26 hR2
      have m9 := cell_of_row w2 w.heap.size 9 _ 26 (0, 0) hR2
      have mf9 := frozen_of_row w2 w.heap.size 9 _ 26 hR2
      have m10 := cell_of_row w2 w.heap.size 10 _ 26 (0, 0) hR2
      have mf10 := frozen_of_row w2 w.heap.size 10 _ 26 hR2
      have m11 := cell_of_row w2 w.heap.size 11 _ 26 (0, 0) hR2
      have mf11 := frozen_of_row w2 w.heap.size 11 _ 26 hR2
      have m12 := cell_of_row w2 w.heap.size 12 _ 26 (0, 0) hR2
      have mf12 := frozen_of_row w2 w.heap.size 12 _ 26 hR2
      simp only [List.getElem?_toArray, List.getElem?_cons_succ, List.getElem?_cons_zero] at m0 m1 m2 m3 m4 m5 m6 m7 m8 m9 m10 m11 m12
      have RVH := hide hR2
      clear hR2 hb2 ho2
      go_wp2
      have hs9 := set13 w2 w.heap.size 26 _ _ _ _ _ _ _ _ _ _ _ _ _ (.int .i64 0) (.int .i64 0) (.int .i64 0) (.int .i64 0) (.int .i64 0) (.int .i64 0) (.int .i64 0) (.int .i64 0) (.bool false) (.bool false) (.slice none 0 0) (.slice none 0 0) (.slice none 0 0) RVH.out
      have hG9 : w2.grownBy (((((((((((((w2.setCell ⟨w.heap.size, 0, none⟩ (.int .i64 0)).setCell ⟨w.heap.size, 1, none⟩ (.int .i64 0)).setCell ⟨w.heap.size, 2, none⟩ (.int .i64 0)).setCell ⟨w.heap.size, 3, none⟩ (.int .i64 0)).setCell ⟨w.heap.size, 4, none⟩ (.int .i64 0)).setCell ⟨w.heap.size, 5, none⟩ (.int .i64 0)).setCell ⟨w.heap.size, 6, none⟩ (.int .i64 0)).setCell ⟨w.heap.size, 7, none⟩ (.int .i64 0)).setCell ⟨w.heap.size, 8, none⟩ (.bool false)).setCell ⟨w.heap.size, 9, none⟩ (.bool false)).setCell ⟨w.heap.size, 10, none⟩ (.slice none 0 0)).setCell ⟨w.heap.size, 11, none⟩ (.slice none 0 0)).setCell ⟨w.heap.size, 12, none⟩ (.slice none 0 0)) (some w.heap.size) := gtrans (gtrans (gtrans (gtrans (gtrans (gtrans (gtrans (gtrans (gtrans (gtrans (gtrans (gtrans (grown_set w2 w.heap.size 0 (.int .i64 0)) (grown_set _ w.heap.size 1 (.int .i64 0))) (grown_set _ w.heap.size 2 (.int .i64 0))) (grown_set _ w.heap.size 3 (.int .i64 0))) (grown_set _ w.heap.size 4 (.int .i64 0))) (grown_set _ w.heap.size 5 (.int .i64 0))) (grown_set _ w.heap.size 6 (.int .i64 0))) (grown_set _ w.heap.size 7 (.int .i64 0))) (grown_set _ w.heap.size 8 (.bool false))) (grown_set _ w.heap.size 9 (.bool false))) (grown_set _ w.heap.size 10 (.slice none 0 0))) (grown_set _ w.heap.size 11 (.slice none 0 0))) (grown_set _ w.heap.size 12 (.slice none 0 0))
      obtain ⟨W9, hW9⟩ : ∃ W9, (((((((((((((w2.setCell ⟨w.heap.size, 0, none⟩ (.int .i64 0)).setCell ⟨w.heap.size, 1, none⟩ (.int .i64 0)).setCell ⟨w.heap.size, 2, none⟩ (.int .i64 0)).setCell ⟨w.heap.size, 3, none⟩ (.int .i64 0)).setCell ⟨w.heap.size, 4, none⟩ (.int .i64 0)).setCell ⟨w.heap.size, 5, none⟩ (.int .i64 0)).setCell ⟨w.heap.size, 6, none⟩ (.int .i64 0)).setCell ⟨w.heap.size, 7, none⟩ (.int .i64 0)).setCell ⟨w.heap.size, 8, none⟩ (.bool false)).setCell ⟨w.heap.size, 9, none⟩ (.bool false)).setCell ⟨w.heap.size, 10, none⟩ (.slice none 0 0)).setCell ⟨w.heap.size, 11, none⟩ (.slice none 0 0)).setCell ⟨w.heap.size, 12, none⟩ (.slice none 0 0)) = W9 := ⟨_, rfl⟩
      rw [hW9] at hs9 hG9 ⊢
      clear hW9
      have n0_ := cell_of_row W9 w.heap.size 0 _ 26 (0, 0) hs9
      have n1_ := cell_of_row W9 w.heap.size 1 _ 26 (0, 0) hs9
      have n2_ := cell_of_row W9 w.heap.size 2 _ 26 (0, 0) hs9
      have n3_ := cell_of_row W9 w.heap.size 3 _ 26 (0, 0) hs9
      have n4_ := cell_of_row W9 w.heap.size 4 _ 26 (0, 0) hs9
      have n5_ := cell_of_row W9 w.heap.size 5 _ 26 (0, 0) hs9
      have n6_ := cell_of_row W9 w.heap.size 6 _ 26 (0, 0) hs9
      have n7_ := cell_of_row W9 w.heap.size 7 _ 26 (0, 0) hs9
      have n8_ := cell_of_row W9 w.heap.size 8 _ 26 (0, 0) hs9
      have n9_ := cell_of_row W9 w.heap.size 9 _ 26 (0, 0) hs9
      have n10_ := cell_of_row W9 w.heap.size 10 _ 26 (0, 0) hs9
      have n11_ := cell_of_row W9 w.heap.size 11 _ 26 (0, 0) hs9
      have n12_ := cell_of_row W9 w.heap.size 12 _ 26 (0, 0) hs9
      simp only [List.getElem?_toArray, List.getElem?_cons_succ, List.getElem?_cons_zero] at n0_ n1_ n2_ n3_ n4_ n5_ n6_ n7_ n8_ n9_ n10_ n11_ n12_
      have hz9 : w.heap.size < W9.heap.size := lt_of_cell n0_
      refine bodyPost_ret (v := .tuple #[.agg #[.int .i64 0, .int .i64 0, .int .i64 0, .int .i64 0, .int .i64 0, .int .i64 0, .int .i64 0, .int .i64 0, .bool false, .bool false, .slice none 0 0, .slice none 0 0, .slice none 0 0], .int .i64 3]) (by simp [results, Try.results18, go_sem, n0_, n1_, n2_, n3_, n4_, n5_, n6_, n7_, n8_, n9_, n10_, n11_, n12_, hz9]) rfl ⟨.slice none 0 0, .slice none 0 0, .slice none 0 0, rfl, MsO.zero _ _, HB2.out.grown hG9 HB2.out.size fun k hk => by injection hk with hk; omega⟩
    · rw [if_neg hK]
      have hKn : ¬ (K : Int) < (n : Int) := by omega
      obtain ⟨m, hm⟩ : ∃ m, readP P = m := ⟨_, rfl⟩
      obtain ⟨q1, hq1⟩ : ∃ q, okM m = q := ⟨_, rfl⟩
      obtain ⟨q2, hq2⟩ : ∃ q, (payL m == P) = q := ⟨_, rfl⟩
      rw [hm, hq1, hq2]
      obtain ⟨R, hRR⟩ : ∃ R, (if (q1 && q2) = true then (m, (0 : Int)) else (ms0, 122)) = R := ⟨_, rfl⟩
      rw [hRR]
      have HRR := hide hRR
      have HPE := hide hq2
      have HOK := hide hq1
      have HRM := hide hm
      clear hK hln hKl hq1 hq2 hm hRR
      go_enter Try.func18, Try.ntmps18
      go_wp2_with fail
      rw [HX.out]
      refine HPK.out.mono ?_
      rintro e w2 ⟨v2, rfl, ho2, hb2⟩
      obtain ⟨p2, n2, c2, rfl⟩ := ho2.by_.sl
      have HO2 := hide ho2
      have hR2 := (hb2.block _ HWX.out).trans HRX.out
      have HR2 := hide hR2
      have HB2 := hide (HBX.out.trans (hb2.mono HBX.out.size))
      have HWZ2 : Hid (w.heap.size < w2.heap.size) := hide (by have := HWX.out; have := hb2.size; omega)
      have HRD := hide (fun W (hW : Below w2.heap.size w2 W) => read_any (ho2.below hW).by_ (by have := HLP.out; omega))
      rw [HRM.out] at HRD
      clear hR2 hb2 ho2
      go_wp2_with fail
      refine (HRD.out _ (Below.refl _ _)).mono ?_
      rintro e w3 ⟨ve, vv, vd, rfl, hmo, hb3⟩
      obtain ⟨pe, ne, ce, rfl⟩ := hmo.es.ens.sl
      obtain ⟨pv, nv, cv, rfl⟩ := hmo.vs.ns.sl
      obtain ⟨pd, nd, cd, rfl⟩ := hmo.d.by_.sl
      have HMO := hide hmo
      have HB3 := hide (HB2.out.trans (hb3.mono HB2.out.size))
      have hR3 := (hb3.block _ HWZ2.out).trans HR2.out
      have HR3 := hide hR3
      have HWZ3 : Hid (w.heap.size < w3.heap.size) := hide (by have := HWZ2.out; have := hb3.size; omega)
      have HP3 := hide ((HO2.out.below hb3).by_)
      obtain ⟨Y, hY⟩ : ∃ Y, w3.alloc (.cells #[.int .i64 m.k, .int .i64 m.f, .int .i64 m.t, .int .i64 m.tm, .int .i64 m.ix, .int .i64 m.lt, .int .i64 m.cm, .int .i64 m.rd, .bool m.ys, .bool m.dn, .slice pe ne ce, .slice pv nv cv, .slice pd nd cd] 26) = Y := ⟨_, rfl⟩
      have HY := hide hY
      have hbY : Below w3.heap.size w3 Y := by rw [← hY]; exact (Below.refl _ _).alloc (Nat.le_refl _) _
      have HXY := hide (by rw [← hY]; exact Box13.new w3 26 (.int .i64 m.k) (.int .i64 m.f) (.int .i64 m.t) (.int .i64 m.tm) (.int .i64 m.ix) (.int .i64 m.lt) (.int .i64 m.cm) (.int .i64 m.rd) (.bool m.ys) (.bool m.dn) (.slice pe ne ce) (.slice pv nv cv) (.slice pd nd cd) : Box13 Y w3.heap.size (.int .i64 m.k) (.int .i64 m.f) (.int .i64 m.t) (.int .i64 m.tm) (.int .i64 m.ix) (.int .i64 m.lt) (.int .i64 m.cm) (.int .i64 m.rd) (.bool m.ys) (.bool m.dn) (.slice pe ne ce) (.slice pv nv cv) (.slice pd nd cd))
      have HBY := hide hbY
      have HB4 := hide (HB3.out.trans (hbY.mono HB3.out.size))
      have HR4 := hide ((hbY.block _ HWZ3.out).trans HR3.out)
      have HP4 := hide (HP3.out.below hbY)
      have HWZ4 : Hid (w.heap.size < Y.heap.size) := hide (by have := HWZ3.out; have := hbY.size; omega)
      have HM4 := hide (hmo.v.below hbY)
      have HCK := hide (checkM_any HM4.out)
      have HPY := hide (fun (ok : okM m = true) W (hW : Below Y.heap.size Y W) => payload_any (HM4.out.below hW) ok)
      unfold chkM at HCK
      rw [HOK.out] at HCK HPY
      unfold msA at HCK HPY ⊢
      dsimp only
      clear hmo hR3 hb3 hY hbY
      go_wp2_with fail
      rw [HY.out]
      cases q1 with
      | false =>
        simp only [Bool.false_eq_true, if_false] at HCK
        obtain rfl : (ms0, 122) = R := HRR.out
        refine HCK.out.mono ?_
        rintro e w5 ⟨rfl, hb5⟩
        have HB5 := hide (HB4.out.trans (hb5.mono HB4.out.size))
        have hR5 := (hb5.block _ HWZ4.out).trans HR4.out
        obtain ⟨y0, y1, y2, y3, y4, y5, y6, y7, y8, y9, y10, y11, y12⟩ := HXY.out.below hb5
        have m0 := cell_of_row w5 w.heap.size 0 _ 26 (0, 0) hR5
        have mf0 := frozen_of_row w5 w.heap.size 0 _ 26 hR5
        have m1 := cell_of_row w5 w.heap.size 1 _ 26 (0, 0) hR5
        have mf1 := frozen_of_row w5 w.heap.size 1 _ 26 hR5
        have m2 := cell_of_row w5 w.heap.size 2 _ 26 (0, 0) hR5
        have mf2 := frozen_of_row w5 w.heap.size 2 _ 26 hR5
        have m3 := cell_of_row w5 w.heap.size 3 _ 26 (0, 0) hR5
        have mf3 := frozen_of_row w5 w.heap.size 3 _ 26 hR5
        have m4 := cell_of_row w5 w.heap.size 4 _ 26 (0, 0) hR5
        have mf4 := frozen_of_row w5 w.heap.size 4 _ 26 hR5
        have m5 := cell_of_row w5 w.heap.size 5 _ 26 (0, 0) hR5
        have mf5 := frozen_of_row w5 w.heap.size 5 _ 26 hR5
        have m6 := cell_of_row w5 w.heap.size 6 _ 26 (0, 0) hR5
        have mf6 := frozen_of_row w5 w.heap.size 6 _ 26 hR5
        have m7 := cell_of_row w5 w.heap.size 7 _ 26 (0, 0) hR5
        have mf7 := frozen_of_row w5 w.heap.size 7 _ 26 hR5
        have m8 := cell_of_row w5 w.heap.size 8 _ 26 (0, 0) hR5
        have mf8 := frozen_of_row w5 w.heap.size 8 _ 26 hR5
        have m9 := cell_of_row w5 w.heap.size 9 _ 26 (0, 0) hR5
        have mf9 := frozen_of_row w5 w.heap.size 9 _ 26 hR5
        have m10 := cell_of_row w5 w.heap.size 10 _ 26 (0, 0) hR5
        have mf10 := frozen_of_row w5 w.heap.size 10 _ 26 hR5
        have m11 := cell_of_row w5 w.heap.size 11 _ 26 (0, 0) hR5
        have mf11 := frozen_of_row w5 w.heap.size 11 _ 26 hR5
        have m12 := cell_of_row w5 w.heap.size 12 _ 26 (0, 0) hR5
        have mf12 := frozen_of_row w5 w.heap.size 12 _ 26 hR5
        simp only [List.getElem?_toArray, List.getElem?_cons_succ, List.getElem?_cons_zero] at m0 m1 m2 m3 m4 m5 m6 m7 m8 m9 m10 m11 m12
        have RVH := hide hR5
        clear hR5 hb5 HM4 HMO HPY HXY
        go_wp2
        have hs9 := set13 w5 w.heap.size 26 _ _ _ _ _ _ _ _ _ _ _ _ _ (.int .i64 0) (.int .i64 0) (.int .i64 0) (.int .i64 0) (.int .i64 0) (.int .i64 0) (.int .i64 0) (.int .i64 0) (.bool false) (.bool false) (.slice none 0 0) (.slice none 0 0) (.slice none 0 0) RVH.out
        have hG9 : w5.grownBy (((((((((((((w5.setCell ⟨w.heap.size, 0, none⟩ (.int .i64 0)).setCell ⟨w.heap.size, 1, none⟩ (.int .i64 0)).setCell ⟨w.heap.size, 2, none⟩ (.int .i64 0)).setCell ⟨w.heap.size, 3, none⟩ (.int .i64 0)).setCell ⟨w.heap.size, 4, none⟩ (.int .i64 0)).setCell ⟨w.heap.size, 5, none⟩ (.int .i64 0)).setCell ⟨w.heap.size, 6, none⟩ (.int .i64 0)).setCell ⟨w.heap.size, 7, none⟩ (.int .i64 0)).setCell ⟨w.heap.size, 8, none⟩ (.bool false)).setCell ⟨w.heap.size, 9, none⟩ (.bool false)).setCell ⟨w.heap.size, 10, none⟩ (.slice none 0 0)).setCell ⟨w.heap.size, 11, none⟩ (.slice none 0 0)).setCell ⟨w.heap.size, 12, none⟩ (.slice none 0 0)) (some w.heap.size) := gtrans (gtrans (gtrans (gtrans (gtrans (gtrans (gtrans (gtrans (gtrans (gtrans (gtrans (gtrans (grown_set w5 w.heap.size 0 (.int .i64 0)) (grown_set _ w.heap.size 1 (.int .i64 0))) (grown_set _ w.heap.size 2 (.int .i64 0))) (grown_set _ w.heap.size 3 (.int .i64 0))) (grown_set _ w.heap.size 4 (.int .i64 0))) (grown_set _ w.heap.size 5 (.int .i64 0))) (grown_set _ w.heap.size 6 (.int .i64 0))) (grown_set _ w.heap.size 7 (.int .i64 0))) (grown_set _ w.heap.size 8 (.bool false))) (grown_set _ w.heap.size 9 (.bool false))) (grown_set _ w.heap.size 10 (.slice none 0 0))) (grown_set _ w.heap.size 11 (.slice none 0 0))) (grown_set _ w.heap.size 12 (.slice none 0 0))
        obtain ⟨W9, hW9⟩ : ∃ W9, (((((((((((((w5.setCell ⟨w.heap.size, 0, none⟩ (.int .i64 0)).setCell ⟨w.heap.size, 1, none⟩ (.int .i64 0)).setCell ⟨w.heap.size, 2, none⟩ (.int .i64 0)).setCell ⟨w.heap.size, 3, none⟩ (.int .i64 0)).setCell ⟨w.heap.size, 4, none⟩ (.int .i64 0)).setCell ⟨w.heap.size, 5, none⟩ (.int .i64 0)).setCell ⟨w.heap.size, 6, none⟩ (.int .i64 0)).setCell ⟨w.heap.size, 7, none⟩ (.int .i64 0)).setCell ⟨w.heap.size, 8, none⟩ (.bool false)).setCell ⟨w.heap.size, 9, none⟩ (.bool false)).setCell ⟨w.heap.size, 10, none⟩ (.slice none 0 0)).setCell ⟨w.heap.size, 11, none⟩ (.slice none 0 0)).setCell ⟨w.heap.size, 12, none⟩ (.slice none 0 0)) = W9 := ⟨_, rfl⟩
        rw [hW9] at hs9 hG9 ⊢
        clear hW9
        have n0_ := cell_of_row W9 w.heap.size 0 _ 26 (0, 0) hs9
        have n1_ := cell_of_row W9 w.heap.size 1 _ 26 (0, 0) hs9
        have n2_ := cell_of_row W9 w.heap.size 2 _ 26 (0, 0) hs9
        have n3_ := cell_of_row W9 w.heap.size 3 _ 26 (0, 0) hs9
        have n4_ := cell_of_row W9 w.heap.size 4 _ 26 (0, 0) hs9
        have n5_ := cell_of_row W9 w.heap.size 5 _ 26 (0, 0) hs9
        have n6_ := cell_of_row W9 w.heap.size 6 _ 26 (0, 0) hs9
        have n7_ := cell_of_row W9 w.heap.size 7 _ 26 (0, 0) hs9
        have n8_ := cell_of_row W9 w.heap.size 8 _ 26 (0, 0) hs9
        have n9_ := cell_of_row W9 w.heap.size 9 _ 26 (0, 0) hs9
        have n10_ := cell_of_row W9 w.heap.size 10 _ 26 (0, 0) hs9
        have n11_ := cell_of_row W9 w.heap.size 11 _ 26 (0, 0) hs9
        have n12_ := cell_of_row W9 w.heap.size 12 _ 26 (0, 0) hs9
        simp only [List.getElem?_toArray, List.getElem?_cons_succ, List.getElem?_cons_zero] at n0_ n1_ n2_ n3_ n4_ n5_ n6_ n7_ n8_ n9_ n10_ n11_ n12_
        have hz9 : w.heap.size < W9.heap.size := lt_of_cell n0_
        refine bodyPost_ret (v := .tuple #[.agg #[.int .i64 0, .int .i64 0, .int .i64 0, .int .i64 0, .int .i64 0, .int .i64 0, .int .i64 0, .int .i64 0, .bool false, .bool false, .slice none 0 0, .slice none 0 0, .slice none 0 0], .int .i64 122]) (by simp [results, Try.results18, go_sem, n0_, n1_, n2_, n3_, n4_, n5_, n6_, n7_, n8_, n9_, n10_, n11_, n12_, hz9]) rfl ⟨.slice none 0 0, .slice none 0 0, .slice none 0 0, rfl, MsO.zero _ _, HB5.out.grown hG9 HB5.out.size fun k hk => by injection hk with hk; omega⟩
      | true =>
        simp only [if_true] at HCK
        have HP := hide (HPY.out rfl)
        refine HCK.out.mono ?_
        rintro e w5 ⟨rfl, hb5⟩
        have HB5 := hide (HB4.out.trans (hb5.mono HB4.out.size))
        have hR5 := (hb5.block _ HWZ4.out).trans HR4.out
        have HR5 := hide hR5
        have HWZ5 : Hid (w.heap.size < w5.heap.size) := hide (by have := HWZ4.out; have := hb5.size; omega)
        have HBY5 := hide hb5
        have HP5 := hide (HP4.out.below hb5)
        obtain ⟨y0, y1, y2, y3, y4, y5, y6, y7, y8, y9, y10, y11, y12⟩ := HXY.out.below hb5
        clear hR5 hb5
        go_wp2_with fail
        refine (HP.out _ HBY5.out).mono ?_
        rintro e w6 ⟨v6, rfl, ho6, hb6⟩
        have HB6 := hide (HB5.out.trans (hb6.mono HB5.out.size))
        have hR6 := (hb6.block _ HWZ5.out).trans HR5.out
        have HR6 := hide hR6
        have HEQ := hide (equal_any ho6.by_ (HP5.out.below hb6))
        rw [HPE.out] at HEQ
        obtain ⟨p6, n6, c6, rfl⟩ := ho6.by_.sl
        have HBY6 := hide (HBY5.out.trans (hb6.mono HBY5.out.size))
        clear ho6 hb6 hR6 y0 y1 y2 y3 y4 y5 y6 y7 y8 y9 y10 y11 y12
        go_wp2_with fail
        refine HEQ.out.mono ?_
        rintro e w7 ⟨rfl, rfl⟩
        have hR6 := HR6.out
        obtain ⟨y0, y1, y2, y3, y4, y5, y6, y7, y8, y9, y10, y11, y12⟩ := HXY.out.below HBY6.out
        have m0 := cell_of_row w6 w.heap.size 0 _ 26 (0, 0) hR6
        have mf0 := frozen_of_row w6 w.heap.size 0 _ 26 hR6
        have m1 := cell_of_row w6 w.heap.size 1 _ 26 (0, 0) hR6
        have mf1 := frozen_of_row w6 w.heap.size 1 _ 26 hR6
        have m2 := cell_of_row w6 w.heap.size 2 _ 26 (0, 0) hR6
        have mf2 := frozen_of_row w6 w.heap.size 2 _ 26 hR6
        have m3 := cell_of_row w6 w.heap.size 3 _ 26 (0, 0) hR6
        have mf3 := frozen_of_row w6 w.heap.size 3 _ 26 hR6
        have m4 := cell_of_row w6 w.heap.size 4 _ 26 (0, 0) hR6
        have mf4 := frozen_of_row w6 w.heap.size 4 _ 26 hR6
        have m5 := cell_of_row w6 w.heap.size 5 _ 26 (0, 0) hR6
        have mf5 := frozen_of_row w6 w.heap.size 5 _ 26 hR6
        have m6 := cell_of_row w6 w.heap.size 6 _ 26 (0, 0) hR6
        have mf6 := frozen_of_row w6 w.heap.size 6 _ 26 hR6
        have m7 := cell_of_row w6 w.heap.size 7 _ 26 (0, 0) hR6
        have mf7 := frozen_of_row w6 w.heap.size 7 _ 26 hR6
        have m8 := cell_of_row w6 w.heap.size 8 _ 26 (0, 0) hR6
        have mf8 := frozen_of_row w6 w.heap.size 8 _ 26 hR6
        have m9 := cell_of_row w6 w.heap.size 9 _ 26 (0, 0) hR6
        have mf9 := frozen_of_row w6 w.heap.size 9 _ 26 hR6
        have m10 := cell_of_row w6 w.heap.size 10 _ 26 (0, 0) hR6
        have mf10 := frozen_of_row w6 w.heap.size 10 _ 26 hR6
        have m11 := cell_of_row w6 w.heap.size 11 _ 26 (0, 0) hR6
        have mf11 := frozen_of_row w6 w.heap.size 11 _ 26 hR6
        have m12 := cell_of_row w6 w.heap.size 12 _ 26 (0, 0) hR6
        have mf12 := frozen_of_row w6 w.heap.size 12 _ 26 hR6
        simp only [List.getElem?_toArray, List.getElem?_cons_succ, List.getElem?_cons_zero] at m0 m1 m2 m3 m4 m5 m6 m7 m8 m9 m10 m11 m12
        have RVH := hide hR6
        clear hR6
        cases q2 with
        | false =>
          obtain rfl : (ms0, 122) = R := HRR.out
          clear HXY HMO HM4
          go_wp2
          have hs9 := set13 w6 w.heap.size 26 _ _ _ _ _ _ _ _ _ _ _ _ _ (.int .i64 0) (.int .i64 0) (.int .i64 0) (.int .i64 0) (.int .i64 0) (.int .i64 0) (.int .i64 0) (.int .i64 0) (.bool false) (.bool false) (.slice none 0 0) (.slice none 0 0) (.slice none 0 0) RVH.out
          have hG9 : w6.grownBy (((((((((((((w6.setCell ⟨w.heap.size, 0, none⟩ (.int .i64 0)).setCell ⟨w.heap.size, 1, none⟩ (.int .i64 0)).setCell ⟨w.heap.size, 2, none⟩ (.int .i64 0)).setCell ⟨w.heap.size, 3, none⟩ (.int .i64 0)).setCell ⟨w.heap.size, 4, none⟩ (.int .i64 0)).setCell ⟨w.heap.size, 5, none⟩ (.int .i64 0)).setCell ⟨w.heap.size, 6, none⟩ (.int .i64 0)).setCell ⟨w.heap.size, 7, none⟩ (.int .i64 0)).setCell ⟨w.heap.size, 8, none⟩ (.bool false)).setCell ⟨w.heap.size, 9, none⟩ (.bool false)).setCell ⟨w.heap.size, 10, none⟩ (.slice none 0 0)).setCell ⟨w.heap.size, 11, none⟩ (.slice none 0 0)).setCell ⟨w.heap.size, 12, none⟩ (.slice none 0 0)) (some w.heap.size) := gtrans (gtrans (gtrans (gtrans (gtrans (gtrans (gtrans (gtrans (gtrans (gtrans (gtrans (gtrans (grown_set w6 w.heap.size 0 (.int .i64 0)) (grown_set _ w.heap.size 1 (.int .i64 0))) (grown_set _ w.heap.size 2 (.int .i64 0))) (grown_set _ w.heap.size 3 (.int .i64 0))) (grown_set _ w.heap.size 4 (.int .i64 0))) (grown_set _ w.heap.size 5 (.int .i64 0))) (grown_set _ w.heap.size 6 (.int .i64 0))) (grown_set _ w.heap.size 7 (.int .i64 0))) (grown_set _ w.heap.size 8 (.bool false))) (grown_set _ w.heap.size 9 (.bool false))) (grown_set _ w.heap.size 10 (.slice none 0 0))) (grown_set _ w.heap.size 11 (.slice none 0 0))) (grown_set _ w.heap.size 12 (.slice none 0 0))
          obtain ⟨W9, hW9⟩ : ∃ W9, (((((((((((((w6.setCell ⟨w.heap.size, 0, none⟩ (.int .i64 0)).setCell ⟨w.heap.size, 1, none⟩ (.int .i64 0)).setCell ⟨w.heap.size, 2, none⟩ (.int .i64 0)).setCell ⟨w.heap.size, 3, none⟩ (.int .i64 0)).setCell ⟨w.heap.size, 4, none⟩ (.int .i64 0)).setCell ⟨w.heap.size, 5, none⟩ (.int .i64 0)).setCell ⟨w.heap.size, 6, none⟩ (.int .i64 0)).setCell ⟨w.heap.size, 7, none⟩ (.int .i64 0)).setCell ⟨w.heap.size, 8, none⟩ (.bool false)).setCell ⟨w.heap.size, 9, none⟩ (.bool false)).setCell ⟨w.heap.size, 10, none⟩ (.slice none 0 0)).setCell ⟨w.heap.size, 11, none⟩ (.slice none 0 0)).setCell ⟨w.heap.size, 12, none⟩ (.slice none 0 0)) = W9 := ⟨_, rfl⟩
          rw [hW9] at hs9 hG9 ⊢
          clear hW9
          have n0_ := cell_of_row W9 w.heap.size 0 _ 26 (0, 0) hs9
          have n1_ := cell_of_row W9 w.heap.size 1 _ 26 (0, 0) hs9
          have n2_ := cell_of_row W9 w.heap.size 2 _ 26 (0, 0) hs9
          have n3_ := cell_of_row W9 w.heap.size 3 _ 26 (0, 0) hs9
          have n4_ := cell_of_row W9 w.heap.size 4 _ 26 (0, 0) hs9
          have n5_ := cell_of_row W9 w.heap.size 5 _ 26 (0, 0) hs9
          have n6_ := cell_of_row W9 w.heap.size 6 _ 26 (0, 0) hs9
          have n7_ := cell_of_row W9 w.heap.size 7 _ 26 (0, 0) hs9
          have n8_ := cell_of_row W9 w.heap.size 8 _ 26 (0, 0) hs9
          have n9_ := cell_of_row W9 w.heap.size 9 _ 26 (0, 0) hs9
          have n10_ := cell_of_row W9 w.heap.size 10 _ 26 (0, 0) hs9
          have n11_ := cell_of_row W9 w.heap.size 11 _ 26 (0, 0) hs9
          have n12_ := cell_of_row W9 w.heap.size 12 _ 26 (0, 0) hs9
          simp only [List.getElem?_toArray, List.getElem?_cons_succ, List.getElem?_cons_zero] at n0_ n1_ n2_ n3_ n4_ n5_ n6_ n7_ n8_ n9_ n10_ n11_ n12_
          have hz9 : w.heap.size < W9.heap.size := lt_of_cell n0_
          refine bodyPost_ret (v := .tuple #[.agg #[.int .i64 0, .int .i64 0, .int .i64 0, .int .i64 0, .int .i64 0, .int .i64 0, .int .i64 0, .int .i64 0, .bool false, .bool false, .slice none 0 0, .slice none 0 0, .slice none 0 0], .int .i64 122]) (by simp [results, Try.results18, go_sem, n0_, n1_, n2_, n3_, n4_, n5_, n6_, n7_, n8_, n9_, n10_, n11_, n12_, hz9]) rfl ⟨.slice none 0 0, .slice none 0 0, .slice none 0 0, rfl, MsO.zero _ _, HB6.out.grown hG9 HB6.out.size fun k hk => by injection hk with hk; omega⟩
        | true =>
          obtain rfl : (m, 0) = R := HRR.out
          go_wp2
          have hs9 := set13 w6 w.heap.size 26 _ _ _ _ _ _ _ _ _ _ _ _ _ (.int .i64 m.k) (.int .i64 m.f) (.int .i64 m.t) (.int .i64 m.tm) (.int .i64 m.ix) (.int .i64 m.lt) (.int .i64 m.cm) (.int .i64 m.rd) (.bool m.ys) (.bool m.dn) (.slice pe ne ce) (.slice pv nv cv) (.slice pd nd cd) RVH.out
          have hG9 : w6.grownBy (((((((((((((w6.setCell ⟨w.heap.size, 0, none⟩ (.int .i64 m.k)).setCell ⟨w.heap.size, 1, none⟩ (.int .i64 m.f)).setCell ⟨w.heap.size, 2, none⟩ (.int .i64 m.t)).setCell ⟨w.heap.size, 3, none⟩ (.int .i64 m.tm)).setCell ⟨w.heap.size, 4, none⟩ (.int .i64 m.ix)).setCell ⟨w.heap.size, 5, none⟩ (.int .i64 m.lt)).setCell ⟨w.heap.size, 6, none⟩ (.int .i64 m.cm)).setCell ⟨w.heap.size, 7, none⟩ (.int .i64 m.rd)).setCell ⟨w.heap.size, 8, none⟩ (.bool m.ys)).setCell ⟨w.heap.size, 9, none⟩ (.bool m.dn)).setCell ⟨w.heap.size, 10, none⟩ (.slice pe ne ce)).setCell ⟨w.heap.size, 11, none⟩ (.slice pv nv cv)).setCell ⟨w.heap.size, 12, none⟩ (.slice pd nd cd)) (some w.heap.size) := gtrans (gtrans (gtrans (gtrans (gtrans (gtrans (gtrans (gtrans (gtrans (gtrans (gtrans (gtrans (grown_set w6 w.heap.size 0 (.int .i64 m.k)) (grown_set _ w.heap.size 1 (.int .i64 m.f))) (grown_set _ w.heap.size 2 (.int .i64 m.t))) (grown_set _ w.heap.size 3 (.int .i64 m.tm))) (grown_set _ w.heap.size 4 (.int .i64 m.ix))) (grown_set _ w.heap.size 5 (.int .i64 m.lt))) (grown_set _ w.heap.size 6 (.int .i64 m.cm))) (grown_set _ w.heap.size 7 (.int .i64 m.rd))) (grown_set _ w.heap.size 8 (.bool m.ys))) (grown_set _ w.heap.size 9 (.bool m.dn))) (grown_set _ w.heap.size 10 (.slice pe ne ce))) (grown_set _ w.heap.size 11 (.slice pv nv cv))) (grown_set _ w.heap.size 12 (.slice pd nd cd))
          obtain ⟨W9, hW9⟩ : ∃ W9, (((((((((((((w6.setCell ⟨w.heap.size, 0, none⟩ (.int .i64 m.k)).setCell ⟨w.heap.size, 1, none⟩ (.int .i64 m.f)).setCell ⟨w.heap.size, 2, none⟩ (.int .i64 m.t)).setCell ⟨w.heap.size, 3, none⟩ (.int .i64 m.tm)).setCell ⟨w.heap.size, 4, none⟩ (.int .i64 m.ix)).setCell ⟨w.heap.size, 5, none⟩ (.int .i64 m.lt)).setCell ⟨w.heap.size, 6, none⟩ (.int .i64 m.cm)).setCell ⟨w.heap.size, 7, none⟩ (.int .i64 m.rd)).setCell ⟨w.heap.size, 8, none⟩ (.bool m.ys)).setCell ⟨w.heap.size, 9, none⟩ (.bool m.dn)).setCell ⟨w.heap.size, 10, none⟩ (.slice pe ne ce)).setCell ⟨w.heap.size, 11, none⟩ (.slice pv nv cv)).setCell ⟨w.heap.size, 12, none⟩ (.slice pd nd cd)) = W9 := ⟨_, rfl⟩
          rw [hW9] at hs9 hG9 ⊢
          clear hW9
          have n0_ := cell_of_row W9 w.heap.size 0 _ 26 (0, 0) hs9
          have n1_ := cell_of_row W9 w.heap.size 1 _ 26 (0, 0) hs9
          have n2_ := cell_of_row W9 w.heap.size 2 _ 26 (0, 0) hs9
          have n3_ := cell_of_row W9 w.heap.size 3 _ 26 (0, 0) hs9
          have n4_ := cell_of_row W9 w.heap.size 4 _ 26 (0, 0) hs9
          have n5_ := cell_of_row W9 w.heap.size 5 _ 26 (0, 0) hs9
          have n6_ := cell_of_row W9 w.heap.size 6 _ 26 (0, 0) hs9
          have n7_ := cell_of_row W9 w.heap.size 7 _ 26 (0, 0) hs9
          have n8_ := cell_of_row W9 w.heap.size 8 _ 26 (0, 0) hs9
          have n9_ := cell_of_row W9 w.heap.size 9 _ 26 (0, 0) hs9
          have n10_ := cell_of_row W9 w.heap.size 10 _ 26 (0, 0) hs9
          have n11_ := cell_of_row W9 w.heap.size 11 _ 26 (0, 0) hs9
          have n12_ := cell_of_row W9 w.heap.size 12 _ 26 (0, 0) hs9
          simp only [List.getElem?_toArray, List.getElem?_cons_succ, List.getElem?_cons_zero] at n0_ n1_ n2_ n3_ n4_ n5_ n6_ n7_ n8_ n9_ n10_ n11_ n12_
          have hz9 : w.heap.size < W9.heap.size := lt_of_cell n0_
          refine bodyPost_ret (v := .tuple #[.agg #[.int .i64 m.k, .int .i64 m.f, .int .i64 m.t, .int .i64 m.tm, .int .i64 m.ix, .int .i64 m.lt, .int .i64 m.cm, .int .i64 m.rd, .bool m.ys, .bool m.dn, .slice pe ne ce, .slice pv nv cv, .slice pd nd cd], .int .i64 0]) (by simp [results, Try.results18, go_sem, n0_, n1_, n2_, n3_, n4_, n5_, n6_, n7_, n8_, n9_, n10_, n11_, n12_, hz9]) rfl ⟨.slice pe ne ce, .slice pv nv cv, .slice pd nd cd, rfl, ?_, HB6.out.grown hG9 HB6.out.size fun k hk => by injection hk with hk; omega⟩
          have hx1 : MsO w2.heap.size w6 m (.slice pe ne ce) (.slice pv nv cv) (.slice pd nd cd) := HMO.out.below (HBY.out.trans (HBY6.out.mono HBY.out.size))
          exact (hx1.grownLt hG9 HWZ2.out).mono (Nat.le_of_lt HWZ2.out)
  · have hE' : ¬ (E : Int) = 0 := by omega
    rw [if_pos hE]
    clear HPO hE hln
    go_enter Try.func18, Try.ntmps18
    go_wp2_with fail
    rw [HX.out]
    refine HPK.out.mono ?_
    rintro e w2 ⟨v2, rfl, ho2, hb2⟩
    obtain ⟨p2, n2, c2, rfl⟩ := ho2.by_.sl
    have hR2 := (hb2.block _ HWX.out).trans HRX.out
    have HB2 := hide (HBX.out.trans (hb2.mono HBX.out.size))
    have m0 := cell_of_row w2 w.heap.size 0 _ 26 (0, 0) hR2
    have mf0 := frozen_of_row w2 w.heap.size 0 _ 26 hR2
    have m1 := cell_of_row w2 w.heap.size 1 _ 26 (0, 0) hR2
    have mf1 := frozen_of_row w2 w.heap.size 1 _ 26 hR2
    have m2 := cell_of_row w2 w.heap.size 2 _ 26 (0, 0) hR2
    have mf2 := frozen_of_row w2 w.heap.size 2 _ 26 hR2
    have m3 := cell_of_row w2 w.heap.size 3 _ 26 (0, 0) hR2
    have mf3 := frozen_of_row w2 w.heap.size 3 _ 26 hR2
    have m4 := cell_of_row w2 w.heap.size 4 _ 26 (0, 0) hR2
    have mf4 := frozen_of_row w2 w.heap.size 4 _ 26 hR2
    have m5 := cell_of_row w2 w.heap.size 5 _ 26 (0, 0) hR2
    have mf5 := frozen_of_row w2 w.heap.size 5 _ 26 hR2
    have m6 := cell_of_row w2 w.heap.size 6 _ 26 (0, 0) hR2
    have mf6 := frozen_of_row w2 w.heap.size 6 _ 26 hR2
    have m7 := cell_of_row w2 w.heap.size 7 _ 26 (0, 0) hR2
    have mf7 := frozen_of_row w2 w.heap.size 7 _ 26 hR2
    have m8 := cell_of_row w2 w.heap.size 8 _ 26 (0, 0) hR2
    have mf8 := frozen_of_row w2 w.heap.size 8 _ 26 hR2
    have m9 := cell_of_row w2 w.heap.size 9 _ 26 (0, 0) hR2
    have mf9 := frozen_of_row w2 w.heap.size 9 _ 26 hR2
    have m10 := cell_of_row w2 w.heap.size 10 _ 26 (0, 0) hR2
    have mf10 := frozen_of_row w2 w.heap.size 10 _ 26 hR2
    have m11 := cell_of_row w2 w.heap.size 11 _ 26 (0, 0) hR2
    have mf11 := frozen_of_row w2 w.heap.size 11 _ 26 hR2
    have m12 := cell_of_row w2 w.heap.size 12 _ 26 (0, 0) hR2
    have mf12 := frozen_of_row w2 w.heap.size 12 _ 26 hR2
    simp only [List.getElem?_toArray, List.getElem?_cons_succ, List.getElem?_cons_zero] at m0 m1 m2 m3 m4 m5 m6 m7 m8 m9 m10 m11 m12
    have RVH := hide hR2
    clear hR2 hb2 ho2
    go_wp2
    have hs9 := set13 w2 w.heap.size 26 _ _ _ _ _ _ _ _ _ _ _ _ _ (.int .i64 0) (.int .i64 0) (.int .i64 0) (.int .i64 0) (.int .i64 0) (.int .i64 0) (.int .i64 0) (.int .i64 0) (.bool false) (.bool false) (.slice none 0 0) (.slice none 0 0) (.slice none 0 0) RVH.out
    have hG9 : w2.grownBy (((((((((((((w2.setCell ⟨w.heap.size, 0, none⟩ (.int .i64 0)).setCell ⟨w.heap.size, 1, none⟩ (.int .i64 0)).setCell ⟨w.heap.size, 2, none⟩ (.int .i64 0)).setCell ⟨w.heap.size, 3, none⟩ (.int .i64 0)).setCell ⟨w.heap.size, 4, none⟩ (.int .i64 0)).setCell ⟨w.heap.size, 5, none⟩ (.int .i64 0)).setCell ⟨w.heap.size, 6, none⟩ (.int .i64 0)).setCell ⟨w.heap.size, 7, none⟩ (.int .i64 0)).setCell ⟨w.heap.size, 8, none⟩ (.bool false)).setCell ⟨w.heap.size, 9, none⟩ (.bool false)).setCell ⟨w.heap.size, 10, none⟩ (.slice none 0 0)).setCell ⟨w.heap.size, 11, none⟩ (.slice none 0 0)).setCell ⟨w.heap.size, 12, none⟩ (.slice none 0 0)) (some w.heap.size) := gtrans (gtrans (gtrans (gtrans (gtrans (gtrans (gtrans (gtrans (gtrans (gtrans (gtrans (gtrans (grown_set w2 w.heap.size 0 (.int .i64 0)) (grown_set _ w.heap.size 1 (.int .i64 0))) (grown_set _ w.heap.size 2 (.int .i64 0))) (grown_set _ w.heap.size 3 (.int .i64 0))) (grown_set _ w.heap.size 4 (.int .i64 0))) (grown_set _ w.heap.size 5 (.int .i64 0))) (grown_set _ w.heap.size 6 (.int .i64 0))) (grown_set _ w.heap.size 7 (.int .i64 0))) (grown_set _ w.heap.size 8 (.bool false))) (grown_set _ w.heap.size 9 (.bool false))) (grown_set _ w.heap.size 10 (.slice none 0 0))) (grown_set _ w.heap.size 11 (.slice none 0 0))) (grown_set _ w.heap.size 12 (.slice none 0 0))
    obtain ⟨W9, hW9⟩ : ∃ W9, (((((((((((((w2.setCell ⟨w.heap.size, 0, none⟩ (.int .i64 0)).setCell ⟨w.heap.size, 1, none⟩ (.int .i64 0)).setCell ⟨w.heap.size, 2, none⟩ (.int .i64 0)).setCell ⟨w.heap.size, 3, none⟩ (.int .i64 0)).setCell ⟨w.heap.size, 4, none⟩ (.int .i64 0)).setCell ⟨w.heap.size, 5, none⟩ (.int .i64 0)).setCell ⟨w.heap.size, 6, none⟩ (.int .i64 0)).setCell ⟨w.heap.size, 7, none⟩ (.int .i64 0)).setCell ⟨w.heap.size, 8, none⟩ (.bool false)).setCell ⟨w.heap.size, 9, none⟩ (.bool false)).setCell ⟨w.heap.size, 10, none⟩ (.slice none 0 0)).setCell ⟨w.heap.size, 11, none⟩ (.slice none 0 0)).setCell ⟨w.heap.size, 12, none⟩ (.slice none 0 0)) = W9 := ⟨_, rfl⟩
    rw [hW9] at hs9 hG9 ⊢
    clear hW9
    have n0_ := cell_of_row W9 w.heap.size 0 _ 26 (0, 0) hs9
    have n1_ := cell_of_row W9 w.heap.size 1 _ 26 (0, 0) hs9
    have n2_ := cell_of_row W9 w.heap.size 2 _ 26 (0, 0) hs9
    have n3_ := cell_of_row W9 w.heap.size 3 _ 26 (0, 0) hs9
    have n4_ := cell_of_row W9 w.heap.size 4 _ 26 (0, 0) hs9
    have n5_ := cell_of_row W9 w.heap.size 5 _ 26 (0, 0) hs9
    have n6_ := cell_of_row W9 w.heap.size 6 _ 26 (0, 0) hs9
    have n7_ := cell_of_row W9 w.heap.size 7 _ 26 (0, 0) hs9
    have n8_ := cell_of_row W9 w.heap.size 8 _ 26 (0, 0) hs9
    have n9_ := cell_of_row W9 w.heap.size 9 _ 26 (0, 0) hs9
    have n10_ := cell_of_row W9 w.heap.size 10 _ 26 (0, 0) hs9
    have n11_ := cell_of_row W9 w.heap.size 11 _ 26 (0, 0) hs9
    have n12_ := cell_of_row W9 w.heap.size 12 _ 26 (0, 0) hs9
    simp only [List.getElem?_toArray, List.getElem?_cons_succ, List.getElem?_cons_zero] at n0_ n1_ n2_ n3_ n4_ n5_ n6_ n7_ n8_ n9_ n10_ n11_ n12_
    have hz9 : w.heap.size < W9.heap.size := lt_of_cell n0_
    refine bodyPost_ret (v := .tuple #[.agg #[.int .i64 0, .int .i64 0, .int .i64 0, .int .i64 0, .int .i64 0, .int .i64 0, .int .i64 0, .int .i64 0, .bool false, .bool false, .slice none 0 0, .slice none 0 0, .slice none 0 0], .int .i64 (E : Int)]) (by simp [results, Try.results18, go_sem, n0_, n1_, n2_, n3_, n4_, n5_, n6_, n7_, n8_, n9_, n10_, n11_, n12_, hz9]) rfl ⟨.slice none 0 0, .slice none 0 0, .slice none 0 0, rfl, MsO.zero _ _, HB2.out.grown hG9 HB2.out.size fun k hk => by injection hk with hk; omega⟩
end Go.Proofs.Ytiiollgipfggmaa
/- weight. -/
namespace Go.Proofs.Ytiiollgipfggmaa
set_option linter.unusedVariables false
set_option linter.unusedSimpArgs false
open Go.RowKit

set_option maxRecDepth 200000 in
set_option maxHeartbeats 4000000 in
theorem weight_any {w : World} {v : Value} {L : List Ms} (h : Mss w v L) : Calls Try.prog 10 #[v] w fun e w' => (∃ x, e = .returned (.int .i64 x)) ∧ Below w.heap.size w w' := by
  obtain ⟨p, c, rfl, hlc, hcm, hx⟩ := h
  have HX := hide hx
  have hn9 : (L.length : Int) ≤ 9223372036854775807 := by unfold maxLen at hcm; omega
  obtain ⟨n, hn⟩ : ∃ n, L.length = n := ⟨_, rfl⟩
  rw [hn] at hn9 ⊢
  have HN := hide hn
  clear hlc hcm hx hn
  go_enter Try.func10, Try.ntmps10
  go_wp2_with fail
  go_loopw [3, 4, 5] (fun a i _ wr => ∃ (k : Nat) (b : Int), k ≤ n ∧ i = .int .i64 k ∧ a = .int .i64 b ∧ 0 ≤ b ∧ b ≤ 200000 ∧ Hid (Below w.heap.size w wr)) (fun _ i _ _ => n - (intOf i).toNat)
  case atStart => exact ⟨0, 0, by omega, rfl, rfl, by omega, by omega, hide (Below.refl _ _)⟩
  case round =>
    obtain ⟨k, b, hk, rfl, rfl, hb0, hb1, HBW⟩ := hrel
    by_cases hlt : k < n
    · have e1 : decide ((k : Int) < (n : Int)) = true := decide_eq_true (by omega)
      by_cases hb : b ≤ 65536
      · have e2 : decide (b ≤ 65536) = true := decide_eq_true hb
        have hkL : k < L.length := by have := HN.out; omega
        obtain ⟨m, hm⟩ : ∃ m, L[k]? = some m := ⟨_, List.getElem?_eq_getElem hkL⟩
        obtain ⟨g2, o2, ve, vv, vd, rfl, hmv, hc⟩ := HX.out k m hm
        replace hmv := hmv.below HBW.out
        replace hc : ∀ (j : Nat) x, (msC m ve vv vd)[j]? = some x → wr.cell? ⟨g2, o2 + k * 13 + j, none⟩ = some x := fun j x hj => by
          have h1 := hc j x hj
          exact (HBW.out.cell (lt_of_cell h1)).trans h1
        obtain ⟨pe, ne, ce, rfl⟩ := hmv.es.sl
        obtain ⟨pv, nv, cv, rfl⟩ := hmv.vs.sl
        obtain ⟨pd, nd, cd, rfl⟩ := hmv.d.sl
        obtain ⟨oo, hoo⟩ : ∃ oo, o2 + k * 13 = oo := ⟨_, rfl⟩
        rw [hoo] at hc
        have c10 := hc 10 _ rfl
        have c11 := hc 11 _ rfl
        have c12 := hc 12 _ rfl
        have hne := hmv.es.len
        obtain ⟨hne1, hne2, hne3⟩ := hne
        have hE := hmv.es
        have HE := hide hE
        have HNE := hide hne1
        have hnem : (ne : Int) ≤ 9223372036854775807 := by unfold maxLen at hne3; omega
        obtain ⟨mv, hmv1, hmv2⟩ : ∃ mn : Nat, min (nv : Int) 65536 = (mn : Int) ∧ mn ≤ 65536 := ⟨min nv 65536, by omega, by omega⟩
        obtain ⟨md, hmd1, hmd2⟩ : ∃ mn : Nat, min (nd : Int) 65536 = (mn : Int) ∧ mn ≤ 65536 := ⟨min nd 65536, by omega, by omega⟩
        have WR1 : Hid (IntKind.i64.wrap (20 + (mv : Int)) = 20 + mv) := hide (by rw [IntKind.wrap_i64]; omega)
        have WR2 : Hid (IntKind.i64.wrap (20 + (mv : Int) + md) = 20 + mv + md) := hide (by rw [IntKind.wrap_i64]; omega)
        have WR3 : Hid (IntKind.i64.wrap (b + (20 + (mv : Int) + md)) = b + (20 + mv + md)) := hide (by rw [IntKind.wrap_i64]; omega)
        have j0 : (0 : Int) ≤ (k : Int) := by omega
        have j1 : (k : Int) < (n : Int) := by omega
        clear hm hkL hmv hc hne1 hne2 hne3 hE
        go_upto_region 5 with fail
        refine wp_region_held_drew (S := fun V => V.cell? ⟨g2, oo + 11, none⟩ = some (.slice pv nv cv) ∧ V.cell? ⟨g2, oo + 12, none⟩ = some (.slice pd nd cd)) (by kernel_rfl) ?_ (fun hHeld => ?_)
        · (try dsimp only)
          exact ⟨c11, c12⟩
        refine wpAnyH_take (i := 0) (oi := { dst := some 16, op := Op.move (Operand.tmp 3), type := 3, pos := "law.go:27", after := #[], guard := none }) (v := ?_) rfl (by kernel_rfl) (by kernel_rfl) (by kernel_rfl) (fun _ _ _ h => h) (Or.inl ⟨by rfl, ?_⟩) (by assumption) ?_
        rotate_left
        · intro w hSw
          (try dsimp only at hSw)
          go_simp
          try with_reducible rfl
        try simp only [Act.put, List.setIfInBounds_toArray, List.set_cons_zero, List.set_cons_succ]
        refine wpAnyH_take (i := 1) (oi := { dst := some 17, op := Op.move (Operand.tmp 0), type := 28, pos := "law.go:27", after := #[], guard := none }) (v := ?_) rfl (by kernel_rfl) (by kernel_rfl) (by kernel_rfl) (fun _ _ _ h => h) (Or.inl ⟨by rfl, ?_⟩) (by assumption) ?_
        rotate_left
        · intro w hSw
          (try dsimp only at hSw)
          go_simp
          try with_reducible rfl
        try simp only [Act.put, List.setIfInBounds_toArray, List.set_cons_zero, List.set_cons_succ]
        refine wpAnyH_take (i := 2) (oi := { dst := some 18, op := Op.move (Operand.tmp 4), type := 3, pos := "law.go:27", after := #[], guard := none }) (v := ?_) rfl (by kernel_rfl) (by kernel_rfl) (by kernel_rfl) (fun _ _ _ h => h) (Or.inl ⟨by rfl, ?_⟩) (by assumption) ?_
        rotate_left
        · intro w hSw
          (try dsimp only at hSw)
          go_simp
          try with_reducible rfl
        try simp only [Act.put, List.setIfInBounds_toArray, List.set_cons_zero, List.set_cons_succ]
        refine wpAnyH_take (i := 3) (oi := { dst := some 19, op := Op.indexAddr 28 (Operand.tmp 17) (Operand.tmp 18), type := 0, pos := "law.go:27", after := _, guard := none }) (v := ?_) rfl (by kernel_rfl) (by kernel_rfl) (by kernel_rfl) (fun _ _ _ h => h) (Or.inl ⟨by rfl, ?_⟩) (by assumption) ?_
        rotate_left
        · intro w hSw
          (try dsimp only at hSw)
          go_simp
          try with_reducible rfl
        try simp only [Act.put, List.setIfInBounds_toArray, List.set_cons_zero, List.set_cons_succ]
        refine wpAnyH_take (i := 4) (oi := { dst := some 20, op := Op.fieldAddr 26 (Operand.tmp 19) 11, type := 0, pos := "law.go:27", after := _, guard := none }) (v := ?_) rfl (by kernel_rfl) (by kernel_rfl) (by kernel_rfl) (fun _ _ _ h => h) (Or.inl ⟨by rfl, ?_⟩) (by assumption) ?_
        rotate_left
        · intro w hSw
          (try dsimp only at hSw)
          go_simp
          try with_reducible rfl
        try simp only [Act.put, List.setIfInBounds_toArray, List.set_cons_zero, List.set_cons_succ]
        refine wpAnyH_take (i := 5) (oi := { dst := some 21, op := Op.load 23 (Operand.tmp 20), type := 23, pos := "law.go:27", after := _, guard := none }) (v := ?_) rfl (by kernel_rfl) (by kernel_rfl) (by kernel_rfl) (fun _ _ _ h => h) (Or.inl ⟨by rfl, ?_⟩) (by assumption) ?_
        rotate_left
        · intro w hSw
          (try dsimp only at hSw)
          go_simp
          try with_reducible rfl
        try simp only [Act.put, List.setIfInBounds_toArray, List.set_cons_zero, List.set_cons_succ]
        refine wpAnyH_take (i := 6) (oi := { dst := some 22, op := Op.call { callee := Callee.builtin Builtin.len, args := #[Operand.tmp 21], argTypes := #[23] }, type := 3, pos := "law.go:27", after := _, guard := none }) (v := ?_) rfl (by kernel_rfl) (by kernel_rfl) (by kernel_rfl) (fun _ _ _ h => h) (Or.inl ⟨by rfl, ?_⟩) (by assumption) ?_
        rotate_left
        · intro w hSw
          (try dsimp only at hSw)
          go_simp
          try with_reducible rfl
        try simp only [Act.put, List.setIfInBounds_toArray, List.set_cons_zero, List.set_cons_succ]
        refine wpAnyH_take (i := 7) (oi := { dst := some 23, op := Op.call { callee := Callee.builtin Builtin.min, args := #[Operand.tmp 22, Operand.const (Value.int IntKind.i64 65536)], argTypes := #[3, 3] }, type := 3, pos := "law.go:27", after := _, guard := none }) (v := ?_) rfl (by kernel_rfl) (by kernel_rfl) (by kernel_rfl) (fun _ _ _ h => h) (Or.inl ⟨by rfl, ?_⟩) (by assumption) ?_
        rotate_left
        · intro w hSw
          (try dsimp only at hSw)
          go_simp
          try with_reducible rfl
        try simp only [Act.put, List.setIfInBounds_toArray, List.set_cons_zero, List.set_cons_succ]
        refine wpAnyH_take (i := 8) (oi := { dst := some 24, op := Op.binOp BinOp.add 3 (Operand.const (Value.int IntKind.i64 20)) (Operand.tmp 23) 3, type := 3, pos := "law.go:27", after := _, guard := none }) (v := ?_) rfl (by kernel_rfl) (by kernel_rfl) (by kernel_rfl) (fun _ _ _ h => h) (Or.inl ⟨by rfl, ?_⟩) (by assumption) ?_
        rotate_left
        · intro w hSw
          (try dsimp only at hSw)
          go_simp
          try with_reducible rfl
        try simp only [Act.put, List.setIfInBounds_toArray, List.set_cons_zero, List.set_cons_succ]
        refine wpAnyH_take (i := 9) (oi := { dst := some 25, op := Op.move (Operand.tmp 0), type := 28, pos := "law.go:27", after := #[], guard := none }) (v := ?_) rfl (by kernel_rfl) (by kernel_rfl) (by kernel_rfl) (fun _ _ _ h => h) (Or.inl ⟨by rfl, ?_⟩) (by assumption) ?_
        rotate_left
        · intro w hSw
          (try dsimp only at hSw)
          go_simp
          try with_reducible rfl
        try simp only [Act.put, List.setIfInBounds_toArray, List.set_cons_zero, List.set_cons_succ]
        refine wpAnyH_take (i := 10) (oi := { dst := some 26, op := Op.move (Operand.tmp 4), type := 3, pos := "law.go:27", after := #[], guard := none }) (v := ?_) rfl (by kernel_rfl) (by kernel_rfl) (by kernel_rfl) (fun _ _ _ h => h) (Or.inl ⟨by rfl, ?_⟩) (by assumption) ?_
        rotate_left
        · intro w hSw
          (try dsimp only at hSw)
          go_simp
          try with_reducible rfl
        try simp only [Act.put, List.setIfInBounds_toArray, List.set_cons_zero, List.set_cons_succ]
        refine wpAnyH_take (i := 11) (oi := { dst := some 27, op := Op.indexAddr 28 (Operand.tmp 25) (Operand.tmp 26), type := 0, pos := "law.go:27", after := _, guard := none }) (v := ?_) rfl (by kernel_rfl) (by kernel_rfl) (by kernel_rfl) (fun _ _ _ h => h) (Or.inl ⟨by rfl, ?_⟩) (by assumption) ?_
        rotate_left
        · intro w hSw
          (try dsimp only at hSw)
          go_simp
          try with_reducible rfl
        try simp only [Act.put, List.setIfInBounds_toArray, List.set_cons_zero, List.set_cons_succ]
        refine wpAnyH_take (i := 12) (oi := { dst := some 28, op := Op.fieldAddr 26 (Operand.tmp 27) 12, type := 0, pos := "law.go:27", after := _, guard := none }) (v := ?_) rfl (by kernel_rfl) (by kernel_rfl) (by kernel_rfl) (fun _ _ _ h => h) (Or.inl ⟨by rfl, ?_⟩) (by assumption) ?_
        rotate_left
        · intro w hSw
          (try dsimp only at hSw)
          go_simp
          try with_reducible rfl
        try simp only [Act.put, List.setIfInBounds_toArray, List.set_cons_zero, List.set_cons_succ]
        refine wpAnyH_take (i := 13) (oi := { dst := some 29, op := Op.load 24 (Operand.tmp 28), type := 24, pos := "law.go:27", after := _, guard := none }) (v := ?_) rfl (by kernel_rfl) (by kernel_rfl) (by kernel_rfl) (fun _ _ _ h => h) (Or.inl ⟨by rfl, ?_⟩) (by assumption) ?_
        rotate_left
        · intro w hSw
          (try dsimp only at hSw)
          go_simp
          try with_reducible rfl
        try simp only [Act.put, List.setIfInBounds_toArray, List.set_cons_zero, List.set_cons_succ]
        refine wpAnyH_take (i := 14) (oi := { dst := some 30, op := Op.call { callee := Callee.builtin Builtin.len, args := #[Operand.tmp 29], argTypes := #[24] }, type := 3, pos := "law.go:27", after := _, guard := none }) (v := ?_) rfl (by kernel_rfl) (by kernel_rfl) (by kernel_rfl) (fun _ _ _ h => h) (Or.inl ⟨by rfl, ?_⟩) (by assumption) ?_
        rotate_left
        · intro w hSw
          (try dsimp only at hSw)
          go_simp
          try with_reducible rfl
        try simp only [Act.put, List.setIfInBounds_toArray, List.set_cons_zero, List.set_cons_succ]
        refine wpAnyH_take (i := 15) (oi := { dst := some 31, op := Op.call { callee := Callee.builtin Builtin.min, args := #[Operand.tmp 30, Operand.const (Value.int IntKind.i64 65536)], argTypes := #[3, 3] }, type := 3, pos := "law.go:27", after := _, guard := none }) (v := ?_) rfl (by kernel_rfl) (by kernel_rfl) (by kernel_rfl) (fun _ _ _ h => h) (Or.inl ⟨by rfl, ?_⟩) (by assumption) ?_
        rotate_left
        · intro w hSw
          (try dsimp only at hSw)
          go_simp
          try with_reducible rfl
        try simp only [Act.put, List.setIfInBounds_toArray, List.set_cons_zero, List.set_cons_succ]
        refine wpAnyH_take (i := 16) (oi := { dst := some 32, op := Op.binOp BinOp.add 3 (Operand.tmp 24) (Operand.tmp 31) 3, type := 3, pos := "law.go:27", after := _, guard := none }) (v := ?_) rfl (by kernel_rfl) (by kernel_rfl) (by kernel_rfl) (fun _ _ _ h => h) (Or.inl ⟨by rfl, ?_⟩) (by assumption) ?_
        rotate_left
        · intro w hSw
          (try dsimp only at hSw)
          go_simp
          try with_reducible rfl
        try simp only [Act.put, List.setIfInBounds_toArray, List.set_cons_zero, List.set_cons_succ]
        refine wpAnyH_take (i := 17) (oi := { dst := some 33, op := Op.binOp BinOp.add 3 (Operand.tmp 16) (Operand.tmp 32) 3, type := 3, pos := "law.go:27", after := _, guard := none }) (v := ?_) rfl (by kernel_rfl) (by kernel_rfl) (by kernel_rfl) (fun _ _ _ h => h) (Or.inl ⟨by rfl, ?_⟩) (by assumption) ?_
        rotate_left
        · intro w hSw
          (try dsimp only at hSw)
          go_simp
          try with_reducible rfl
        try simp only [Act.put, List.setIfInBounds_toArray, List.set_cons_zero, List.set_cons_succ]
        refine wpAnyH_take (i := 18) (oi := { dst := some 3, op := Op.assign (Operand.tmp 33), type := 3, pos := "law.go:27", after := _, guard := none }) (v := ?_) rfl (by kernel_rfl) (by kernel_rfl) (by kernel_rfl) (fun _ _ _ h => h) (Or.inl ⟨by rfl, ?_⟩) (by assumption) ?_
        rotate_left
        · intro w hSw
          (try dsimp only at hSw)
          go_simp
          try with_reducible rfl
        try simp only [Act.put, List.setIfInBounds_toArray, List.set_cons_zero, List.set_cons_succ]
        refine wpAnyH_done (by kernel_rfl) ?_ _
        go_wp2_with fail
        go_loop [3, 5] (fun a i => ∃ (j : Nat) (b : Int), j ≤ ne ∧ i = .int .i64 j ∧ a = .int .i64 b ∧ 0 ≤ b ∧ b ≤ 200000) (fun _ i => ne - (intOf i).toNat)
        case atStart => exact ⟨0, b + (20 + mv + md), by omega, rfl, by rw [WR1.out, WR2.out, WR3.out], by omega, by omega⟩
        case round =>
          obtain ⟨j, b2, hj, rfl, rfl, hd0, hd1⟩ := hrel
          by_cases hjl : j < ne
          · have e3 : decide ((j : Int) < (ne : Int)) = true := decide_eq_true (by omega)
            by_cases hb2 : b2 ≤ 65536
            · have e4 : decide (b2 ≤ 65536) = true := decide_eq_true hb2
              obtain ⟨e, he⟩ : ∃ e, m.es[j]? = some e := ⟨_, List.getElem?_eq_getElem (by rw [← HNE.out]; exact hjl)⟩
              obtain ⟨g3, o3, pq, nq, cq, rfl, hat, hby, hnd⟩ := HE.out.at_ he
              have k2 := hat.c2
              dsimp only at k2
              obtain ⟨mq, hmq1, hmq2⟩ : ∃ mn : Nat, min (nq : Int) 65536 = (mn : Int) ∧ mn ≤ 65536 := ⟨min nq 65536, by omega, by omega⟩
              have i0 : (0 : Int) ≤ (j : Int) := by omega
              have i1 : (j : Int) < (ne : Int) := by omega
              clear he hat hby hnd
              go_wp2
              go_round
              case rel => exact ⟨j + 1, b2 + (20 + mq), by omega, by go_num, by go_num, by omega, by omega⟩
              case measure => simp [intOf]; omega
            · have e4 : decide (b2 ≤ 65536) = false := decide_eq_false hb2
              go_wp2
              go_roundw
              case rel => exact ⟨k + 1, _, by omega, by go_num, rfl, by omega, by omega, hide (by first | exact HBW.out | exact bel_drewN HBW.out _ | exact bel_drewN HBW.out 1)⟩
              case measure => simp [intOf]; omega
          · have e3 : decide ((j : Int) < (ne : Int)) = false := decide_eq_false (by omega)
            go_wp2
            go_roundw
            case rel => exact ⟨k + 1, _, by omega, by go_num, rfl, by omega, by omega, hide (by first | exact HBW.out | exact bel_drewN HBW.out _ | exact bel_drewN HBW.out 1)⟩
            case measure => simp [intOf]; omega
      · have e2 : decide (b ≤ 65536) = false := decide_eq_false hb
        go_wp2
        go_ret
        exact ⟨⟨_, rfl⟩, HBW.out⟩
    · have e1 : decide ((k : Int) < (n : Int)) = false := decide_eq_false (by omega)
      go_wp2
      go_ret
      exact ⟨⟨_, rfl⟩, HBW.out⟩
end Go.Proofs.Ytiiollgipfggmaa
/- Messages that came in as arguments. -/
namespace Go.Proofs.Ytiiollgipfggmaa
set_option linter.unusedVariables false
set_option linter.unusedSimpArgs false
open Go.RowKit Go.Deep Go.ChangeShapes

theorem Try.cells5 : Try.prog.cellsOf 5 = 1 := by kernel_rfl
theorem Try.cells3 : Try.prog.cellsOf 3 = 1 := by kernel_rfl
theorem Try.cellsBy : Try.prog.cellsOf 24 = 1 := by kernel_rfl
theorem Try.cellsSl : Try.prog.cellsOf 22 = 1 := by kernel_rfl
theorem Try.cellsEn : Try.prog.cellsOf 70 = 3 := by kernel_rfl
theorem Try.bytesEn : Try.prog.bytesOf 70 = 40 := by kernel_rfl
theorem data_of_cell {H : Type} {enc : TypeId × Value → H} {W : World} {c : Value} {fuel : Nat} {x : DataW H × List MemPlace} (h : DataW.trod enc Try.prog W 0 (fun _ => true) true fuel 24 [c] = some x) : ∃ p n cp d, c = .slice p n cp ∧ By W (.slice p n cp) d := by
  rcases open_ints Try.underlying24 Try.underlying5 Try.cells5 h with ⟨hcs, _⟩ | ⟨a, len, cap, zs, hcs, _, hl, hm, hz, _, hcell, hwz⟩
  · simp at hcs
    exact ⟨none, 0, 0, [], hcs, By.nil W⟩
  · simp at hcs
    obtain ⟨l, hll, hb⟩ := by_of_row (w := W) (a := some a) (len := len) (cap := cap) (zs := zs) (.inr ⟨_, rfl, hl, hm, by simpa using hz, hcell, hwz⟩)
    exact ⟨some a, len, cap, l, hcs, hb⟩
theorem fits_wf {x : Int} (h : (Lit.int .i64 x).wf = true) : fits x := by
  have h1 : IntKind.i64.min = -9223372036854775808 := rfl
  have h2 : IntKind.i64.max = 9223372036854775807 := rfl
  simp only [Lit.wf, Bool.and_eq_true, decide_eq_true_eq] at h
  unfold fits
  omega
set_option maxRecDepth 200000 in
theorem en_of_cells {H : Type} {enc : TypeId × Value → H} {W : World} {cs : List Value} {fuel : Nat} {x : DataW H × List MemPlace} (hcs : cs.length = 3)
    (h : DataW.trod enc Try.prog W 0 (fun _ => true) true fuel 70 cs = some x) : ∃ (y : Ec) (z : En), cs = ecC y ∧ y.i = z.i ∧ y.t = z.t ∧ By W (.slice y.p y.n y.c) z.d ∧ z.fits := by
  obtain ⟨xs, n0, -, -, -, hxl, hx⟩ := DataW.trod_struct Try.underlying70 h
  obtain ⟨c0, c1, c2, rfl⟩ : ∃ c0 c1 c2, cs = [c0, c1, c2] := by
    rcases cs with _ | ⟨c0, _ | ⟨c1, _ | ⟨c2, _ | ⟨c3, r⟩⟩⟩⟩
    all_goals first | (exfalso; simp at hcs; done) | exact ⟨_, _, _, rfl⟩
  obtain ⟨y0, y1, y2, rfl⟩ : ∃ y0 y1 y2, xs = [y0, y1, y2] := by
    rcases xs with _ | ⟨c0, _ | ⟨c1, _ | ⟨c2, _ | ⟨c3, r⟩⟩⟩⟩
    all_goals first | (exfalso; simp at hxl; done) | exact ⟨_, _, _, rfl⟩
  have q0 : DataW.trod enc Try.prog W 0 (fun _ => true) true n0 3 (List.take (Try.prog.cellsOf 3) [c0, c1, c2]) = some y0 := hx 0 _ rfl
  rw [Try.cells3] at q0
  have q1 : DataW.trod enc Try.prog W 0 (fun _ => true) true n0 3 (List.take (Try.prog.cellsOf 3) [c1, c2]) = some y1 := hx 1 _ rfl
  rw [Try.cells3] at q1
  have q2 : DataW.trod enc Try.prog W 0 (fun _ => true) true n0 24 (List.take (Try.prog.cellsOf 24) [c2]) = some y2 := hx 2 _ rfl
  rw [Try.cellsBy] at q2
  obtain ⟨i, e0, -, w0⟩ := DataW.trod_int Try.underlying3 q0
  obtain ⟨t, e1, -, w1⟩ := DataW.trod_int Try.underlying3 q1
  obtain ⟨p, n, cp, d, e2, hb⟩ := data_of_cell q2
  simp at e0 e1
  subst e0 e1 e2
  exact ⟨⟨i, t, p, n, cp⟩, ⟨i, t, d⟩, rfl, rfl, rfl, hb, fits_wf w0, fits_wf w1⟩
instance : Inhabited En := ⟨⟨0, 0, []⟩⟩
set_option maxRecDepth 200000 in
theorem ens_of_trod {H : Type} {enc : TypeId × Value → H} {W : World} {cs : List Value} {fuel : Nat} {x : DataW H × List MemPlace}
    (h : DataW.trod enc Try.prog W 0 (fun _ => true) true fuel 22 cs = some x) : ∃ p n c L, cs = [.slice p n c] ∧ Ens W (.slice p n c) L ∧ ((∀ m ∈ x.1.weights Try.prog 22, m ≤ reachBytes) → L.length * 40 ≤ 140737488351232) := by
  rcases DataW.trod_slice Try.underlying22 h with ⟨hcs, hx0⟩ | ⟨a, len, cap, elems, rest, n, hx0, hcs, hd, hb0, hl, hm, hel, hx, -, -⟩
  · exact ⟨none, 0, 0, [], hcs, Ens.nil W, fun _ => by simp⟩
  · rw [Try.cellsEn] at hx
    have hsize : (∀ m ∈ x.1.weights Try.prog 22, m ≤ reachBytes) → len * 40 ≤ 140737488351232 := fun hz => by
      rw [hd] at hz
      have := hz _ (by simp only [DataW.weights, Try.underlying22, List.mem_cons]; exact .inl rfl)
      rw [Try.bytesEn, List.length_map] at this
      unfold reachBytes at this
      have h1 : len * 40 ≤ (elems.length + (rest.map fun x => x.fst).length) * 40 := Nat.mul_le_mul_right 40 (by omega)
      omega
    rcases Nat.eq_zero_or_pos len with h0 | h0
    · subst h0
      exact ⟨some a, 0, cap, [], hcs, ⟨[], Ecs.none_ W _ _ hm (fun e => by cases e), Dat.nil W⟩, fun _ => by simp⟩
    have hsp : a.spot = none := by
      have h1 := hx 0 h0
      rw [List.getElem?_eq_getElem (by omega)] at h1
      obtain ⟨cs, h2, h3⟩ := Option.bind_eq_some_iff.1 h1
      obtain ⟨hb, hcl, hcell⟩ := World.cells?_some h2
      obtain ⟨y, z, rfl, _⟩ := en_of_cells hcl h3
      have z0 := World.cell?_spot (show W.cell? _ = some (.int .i64 y.i) from hcell 0 (by omega))
      simp [Addr.add] at z0
      exact z0
    obtain ⟨g, o, spot⟩ := a
    obtain rfl : spot = none := hsp
    have each : ∀ i, i < len → ∃ yz : Ec × En, EcAt W g (o + i * 3) yz.1 ∧ yz.1.i = yz.2.i ∧ yz.1.t = yz.2.t ∧ By W (.slice yz.1.p yz.1.n yz.1.c) yz.2.d ∧ yz.2.fits := fun i hi => by
      have h1 := hx i hi
      rw [List.getElem?_eq_getElem (by omega)] at h1
      obtain ⟨cs, h2, h3⟩ := Option.bind_eq_some_iff.1 h1
      obtain ⟨hb, hcl, hcell⟩ := World.cells?_some h2
      obtain ⟨y, z, rfl, hd⟩ := en_of_cells hcl h3
      refine ⟨(y, z), fun k u hk => ?_, hd⟩
      have hk6 : k < 3 := by
        have := (List.getElem?_eq_some_iff.1 hk).1
        rwa [ecC_length] at this
      have := hcell k hk6
      rw [add_lit0, add_lit0] at this
      rw [this]
      exact hk
    let pr : Nat → Ec × En := fun i => if h : i < len then (each i h).choose else (default, default)
    have hpr : ∀ i, (h : i < len) → pr i = (each i h).choose := fun i h => by simp only [pr, dif_pos h]
    have get1 : ∀ (i : Nat) (y : Ec), ((List.range len).map fun i => (pr i).1)[i]? = some y → i < len ∧ y = (pr i).1 := fun i y hi => by
      have hlt : i < len := by
        have := (List.getElem?_eq_some_iff.1 hi).1
        simpa using this
      rw [List.getElem?_map, List.getElem?_range hlt, Option.map_some] at hi
      injection hi with hi
      exact ⟨hlt, hi.symm⟩
    have get2 : ∀ (i : Nat) (y : En), ((List.range len).map fun i => (pr i).2)[i]? = some y → i < len ∧ y = (pr i).2 := fun i y hi => by
      have hlt : i < len := by
        have := (List.getElem?_eq_some_iff.1 hi).1
        simpa using this
      rw [List.getElem?_map, List.getElem?_range hlt, Option.map_some] at hi
      injection hi with hi
      exact ⟨hlt, hi.symm⟩
    refine ⟨some ⟨g, o, none⟩, len, cap, (List.range len).map fun i => (pr i).2, hcs, ⟨(List.range len).map fun i => (pr i).1, ⟨_, cap, by simp, by simpa using hl, hm, (fun e => by cases e), fun _ => ⟨g, o, rfl, fun i y hi => ?_⟩⟩, by simp, fun k e z h1 h2 => ?_⟩, fun hz => by simpa using hsize hz⟩
    · obtain ⟨hlt, rfl⟩ := get1 i y hi
      rw [hpr i hlt]
      exact (each i hlt).choose_spec.1
    · obtain ⟨hlt, rfl⟩ := get1 k e h1
      obtain ⟨_, rfl⟩ := get2 k z h2
      rw [hpr k hlt]
      exact (each k hlt).choose_spec.2

theorem ns_of_cell {H : Type} {enc : TypeId × Value → H} {W : World} {c : Value} {fuel : Nat} {x : DataW H × List MemPlace}
    (hf : DataW.trod enc Try.prog W 0 (fun _ => true) true fuel 23 [c] = some x) : ∃ p n cp l, c = .slice p n cp ∧ Ns W (.slice p n cp) l := by
  rcases open_ints Try.underlying23 Try.underlying3 Try.cells3 hf with ⟨hcs, _⟩ | ⟨x, len, cap, zs, hcs, _, hl, hm, hz, _, hcell, hwz⟩
  · simp at hcs
    exact ⟨none, 0, 0, [], hcs, Ns.nil _⟩
  · simp at hcs
    have hzl : zs.length = cap := by simpa using hz
    refine ⟨some x, len, cap, zs.take len, hcs, some x, cap, by rw [List.length_take, Nat.min_eq_left (by omega)], by rw [List.length_take]; omega, hm, (fun e => by cases e), fun z hzm => ?_, fun h0 => ?_⟩
    · have hw := hwz z (List.mem_of_mem_take hzm)
      have h1 : IntKind.i64.min = -9223372036854775808 := rfl
      have h2 : IntKind.i64.max = 9223372036854775807 := rfl
      simp only [Lit.wf, Bool.and_eq_true, decide_eq_true_eq] at hw
      unfold fits
      omega
    · rw [List.length_take] at h0
      have hsp := World.cell?_spot (hcell 0 (by omega))
      obtain ⟨b, o, spot⟩ := x
      have hsp0 : spot = none := by
        unfold Addr.add at hsp
        rw [if_pos rfl] at hsp
        exact hsp
      subst hsp0
      refine ⟨b, o, rfl, fun i z hi => ?_⟩
      have hil := (List.getElem?_eq_some_iff.1 hi).1
      rw [List.length_take] at hil
      rw [List.getElem?_take_of_lt (by omega)] at hi
      have hc := hcell i (by omega)
      have hg : zs.getD i 0 = z := by simp [List.getD, hi]
      rw [hg, add_lit0] at hc
      exact hc

theorem by_of_arg {H : Type} {enc : TypeId × Value → H} {W : World} {a0 : Option Addr} {len cap : Nat} {d0 : DataW H} {p0 : List MemPlace}
    (h : DataW.Trod enc Try.prog W 0 (fun _ => true) true 24 (.slice a0 len cap) d0 p0) : ∃ l : List UInt8, l.length = len ∧ By W (.slice a0 len cap) l := by
  obtain ⟨fuel, hf⟩ := h
  rcases open_ints Try.underlying24 Try.underlying5 Try.cells5 hf with ⟨hcs, _⟩ | ⟨x, l, c, zs, hcs, _, hl, hm, hz, _, hcell, hwz⟩
  · simp [Value.cells] at hcs
    obtain ⟨rfl, rfl, rfl⟩ := hcs
    exact by_of_row (zs := []) (.inl ⟨rfl, rfl, rfl, rfl⟩)
  · simp [Value.cells] at hcs
    obtain ⟨rfl, rfl, rfl⟩ := hcs
    exact by_of_row (.inr ⟨_, rfl, hl, hm, by simpa using hz, hcell, hwz⟩)


theorem Try.cellsBo : Try.prog.cellsOf 4 = 1 := by kernel_rfl
theorem Try.cellsIs : Try.prog.cellsOf 23 = 1 := by kernel_rfl
theorem Try.cellsMs : Try.prog.cellsOf 26 = 13 := by kernel_rfl
set_option maxRecDepth 200000 in
theorem msg_of_arg {H : Type} {enc : TypeId × Value → H} {W : World} {base : Nat} {v : Value} {d0 : DataW H} {p0 : List MemPlace} (hv : Value.okWide Try.prog W .any base 26 v)
    (h : DataW.Trod enc Try.prog W 0 (fun _ => true) true 26 v d0 p0) : ∃ m ve vv vd, v = msA m ve vv vd ∧ MsV W m ve vv vd := by
  unfold Value.okWide at hv
  rw [Try.underlying26] at hv
  obtain ⟨cs, rfl, hsz, _⟩ := hv
  obtain ⟨fuel, hf⟩ := h
  have hf' : DataW.trod enc Try.prog W 0 (fun _ => true) true fuel 26 cs.toList = some (d0, p0) := hf
  have hcs : cs.toList.length = 13 := by rw [Array.length_toList, hsz, Try.cellsMs]
  obtain ⟨xs, n0, hd0, hd1, hd2, hxl, hx⟩ := DataW.trod_struct Try.underlying26 hf'
  obtain ⟨l, hl⟩ : ∃ l, cs.toList = l := ⟨_, rfl⟩
  rw [hl] at hcs hx
  obtain ⟨c0, c1, c2, c3, c4, c5, c6, c7, c8, c9, c10, c11, c12, rfl⟩ : ∃ c0 c1 c2 c3 c4 c5 c6 c7 c8 c9 c10 c11 c12, l = [c0, c1, c2, c3, c4, c5, c6, c7, c8, c9, c10, c11, c12] := by
    rcases l with _ | ⟨c0, _ | ⟨c1, _ | ⟨c2, _ | ⟨c3, _ | ⟨c4, _ | ⟨c5, _ | ⟨c6, _ | ⟨c7, _ | ⟨c8, _ | ⟨c9, _ | ⟨c10, _ | ⟨c11, _ | ⟨c12, _ | ⟨c13, r⟩⟩⟩⟩⟩⟩⟩⟩⟩⟩⟩⟩⟩⟩
    all_goals first | (exfalso; simp at hcs; done) | exact ⟨_, _, _, _, _, _, _, _, _, _, _, _, _, rfl⟩
  obtain ⟨y0, y1, y2, y3, y4, y5, y6, y7, y8, y9, y10, y11, y12, rfl⟩ : ∃ y0 y1 y2 y3 y4 y5 y6 y7 y8 y9 y10 y11 y12, xs = [y0, y1, y2, y3, y4, y5, y6, y7, y8, y9, y10, y11, y12] := by
    rcases xs with _ | ⟨y0, _ | ⟨y1, _ | ⟨y2, _ | ⟨y3, _ | ⟨y4, _ | ⟨y5, _ | ⟨y6, _ | ⟨y7, _ | ⟨y8, _ | ⟨y9, _ | ⟨y10, _ | ⟨y11, _ | ⟨y12, _ | ⟨y13, r⟩⟩⟩⟩⟩⟩⟩⟩⟩⟩⟩⟩⟩⟩
    all_goals first | (exfalso; simp at hxl; done) | exact ⟨_, _, _, _, _, _, _, _, _, _, _, _, _, rfl⟩
  have q0 : DataW.trod enc Try.prog W 0 (fun _ => true) true n0 3 (List.take (Try.prog.cellsOf 3) [c0, c1, c2, c3, c4, c5, c6, c7, c8, c9, c10, c11, c12]) = some y0 := hx 0 _ rfl
  rw [Try.cells3] at q0
  have q1 : DataW.trod enc Try.prog W 0 (fun _ => true) true n0 3 (List.take (Try.prog.cellsOf 3) [c1, c2, c3, c4, c5, c6, c7, c8, c9, c10, c11, c12]) = some y1 := hx 1 _ rfl
  rw [Try.cells3] at q1
  have q2 : DataW.trod enc Try.prog W 0 (fun _ => true) true n0 3 (List.take (Try.prog.cellsOf 3) [c2, c3, c4, c5, c6, c7, c8, c9, c10, c11, c12]) = some y2 := hx 2 _ rfl
  rw [Try.cells3] at q2
  have q3 : DataW.trod enc Try.prog W 0 (fun _ => true) true n0 3 (List.take (Try.prog.cellsOf 3) [c3, c4, c5, c6, c7, c8, c9, c10, c11, c12]) = some y3 := hx 3 _ rfl
  rw [Try.cells3] at q3
  have q4 : DataW.trod enc Try.prog W 0 (fun _ => true) true n0 3 (List.take (Try.prog.cellsOf 3) [c4, c5, c6, c7, c8, c9, c10, c11, c12]) = some y4 := hx 4 _ rfl
  rw [Try.cells3] at q4
  have q5 : DataW.trod enc Try.prog W 0 (fun _ => true) true n0 3 (List.take (Try.prog.cellsOf 3) [c5, c6, c7, c8, c9, c10, c11, c12]) = some y5 := hx 5 _ rfl
  rw [Try.cells3] at q5
  have q6 : DataW.trod enc Try.prog W 0 (fun _ => true) true n0 3 (List.take (Try.prog.cellsOf 3) [c6, c7, c8, c9, c10, c11, c12]) = some y6 := hx 6 _ rfl
  rw [Try.cells3] at q6
  have q7 : DataW.trod enc Try.prog W 0 (fun _ => true) true n0 3 (List.take (Try.prog.cellsOf 3) [c7, c8, c9, c10, c11, c12]) = some y7 := hx 7 _ rfl
  rw [Try.cells3] at q7
  have q8 : DataW.trod enc Try.prog W 0 (fun _ => true) true n0 4 (List.take (Try.prog.cellsOf 4) [c8, c9, c10, c11, c12]) = some y8 := hx 8 _ rfl
  rw [Try.cellsBo] at q8
  have q9 : DataW.trod enc Try.prog W 0 (fun _ => true) true n0 4 (List.take (Try.prog.cellsOf 4) [c9, c10, c11, c12]) = some y9 := hx 9 _ rfl
  rw [Try.cellsBo] at q9
  have q10 : DataW.trod enc Try.prog W 0 (fun _ => true) true n0 22 (List.take (Try.prog.cellsOf 22) [c10, c11, c12]) = some y10 := hx 10 _ rfl
  rw [Try.cellsSl] at q10
  have q11 : DataW.trod enc Try.prog W 0 (fun _ => true) true n0 23 (List.take (Try.prog.cellsOf 23) [c11, c12]) = some y11 := hx 11 _ rfl
  rw [Try.cellsIs] at q11
  have q12 : DataW.trod enc Try.prog W 0 (fun _ => true) true n0 24 (List.take (Try.prog.cellsOf 24) [c12]) = some y12 := hx 12 _ rfl
  rw [Try.cellsBy] at q12
  obtain ⟨a0, e0, -, w0⟩ := DataW.trod_int Try.underlying3 q0
  obtain ⟨a1, e1, -, w1⟩ := DataW.trod_int Try.underlying3 q1
  obtain ⟨a2, e2, -, w2⟩ := DataW.trod_int Try.underlying3 q2
  obtain ⟨a3, e3, -, w3⟩ := DataW.trod_int Try.underlying3 q3
  obtain ⟨a4, e4, -, w4⟩ := DataW.trod_int Try.underlying3 q4
  obtain ⟨a5, e5, -, w5⟩ := DataW.trod_int Try.underlying3 q5
  obtain ⟨a6, e6, -, w6⟩ := DataW.trod_int Try.underlying3 q6
  obtain ⟨a7, e7, -, w7⟩ := DataW.trod_int Try.underlying3 q7
  obtain ⟨a8, e8, -⟩ := DataW.trod_bool Try.underlying4 q8
  obtain ⟨a9, e9, -⟩ := DataW.trod_bool Try.underlying4 q9
  obtain ⟨pe, ne, ce, L, e10, hE, -⟩ := ens_of_trod q10
  obtain ⟨pv, nv, cv, lv, e11, hV⟩ := ns_of_cell q11
  obtain ⟨pd, nd, cd, ld, e12, hD⟩ := data_of_cell q12
  simp at e0 e1 e2 e3 e4 e5 e6 e7 e8 e9 e10
  subst e0 e1 e2 e3 e4 e5 e6 e7 e8 e9 e10 e11 e12
  refine ⟨⟨a0, a1, a2, a3, a4, a5, a6, a7, a8, a9, L, lv, ld⟩, .slice pe ne ce, .slice pv nv cv, .slice pd nd cd, ?_, hE, hV, hD, ?_⟩
  · unfold msA
    congr 1
    exact Array.toList_inj.1 (by rw [hl])
  · intro x hx
    simp only [Ms.nums, List.mem_cons, List.not_mem_nil, or_false] at hx
    rcases hx with rfl | rfl | rfl | rfl | rfl | rfl | rfl | rfl
    · exact fits_wf w0
    · exact fits_wf w1
    · exact fits_wf w2
    · exact fits_wf w3
    · exact fits_wf w4
    · exact fits_wf w5
    · exact fits_wf w6
    · exact fits_wf w7
end Go.Proofs.Ytiiollgipfggmaa
