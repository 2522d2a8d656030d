/- A message's bytes, or that it may not be. -/
import Derived.Test.YtiiollgipfggmaaNOwn
import Derived.Test.YtiiollgipfggmaaNRefPut2
namespace Go.Proofs.Ytiiollgipfggmaa
set_option linter.unusedVariables false
set_option linter.unusedSimpArgs false
open Go.RowKit

theorem mss_one {W : World} {b : Nat} {m : Ms} {pe pv pd : Option Addr} {ne ce nv cv nd cd : Nat} (hr : W.heap[b]? = some (.cells #[.int .i64 m.k, .int .i64 m.f, .int .i64 m.t, .int .i64 m.tm, .int .i64 m.ix, .int .i64 m.lt, .int .i64 m.cm, .int .i64 m.rd, .bool m.ys, .bool m.dn, .slice pe ne ce, .slice pv nv cv, .slice pd nd cd] 26 (0, 0))) (h : MsV W m (.slice pe ne ce) (.slice pv nv cv) (.slice pd nd cd)) : Mss W (.slice (some ⟨b, 0, none⟩) 1 1) [m] := by
  refine ⟨_, 1, rfl, Nat.le_refl _, by decide, fun k x hk => ?_⟩
  match k, hk with
  | 0, hk =>
    simp at hk
    subst hk
    refine ⟨b, 0, _, _, _, rfl, h, fun j x hj => ?_⟩
    have hjl := (List.getElem?_eq_some_iff.1 hj).1
    rw [cell_of_row W b _ _ _ (0, 0) hr]
    rw [← hj]
    have h13 : j < 13 := hjl
    match j, h13 with
    | 0, _ => rfl
    | 1, _ => rfl
    | 2, _ => rfl
    | 3, _ => rfl
    | 4, _ => rfl
    | 5, _ => rfl
    | 6, _ => rfl
    | 7, _ => rfl
    | 8, _ => rfl
    | 9, _ => rfl
    | 10, _ => rfl
    | 11, _ => rfl
    | 12, _ => rfl
  | k + 1, hk => simp at hk

set_option maxRecDepth 200000 in
set_option maxHeartbeats 4000000 in
theorem lawPuts_any {w : World} {m : Ms} {ve vv vd : Value} (h : MsV w m ve vv vd) : Calls Try.prog 3 #[msA m ve vv vd] w fun e w' => e = .returned (.bool true) ∧ Below w.heap.size w w' := by
  obtain ⟨pe, ne, ce, rfl⟩ := h.es.sl
  obtain ⟨pv, nv, cv, rfl⟩ := h.vs.sl
  obtain ⟨pd, nd, cd, rfl⟩ := h.d.sl
  have HPU := hide (fun (m : Ms) ve vv vd W (h : MsV W m ve vv vd) => put_any h)
  have HRP := hide (fun W (hW : Below w.heap.size w W) => refPut_any (h.below hW))
  have HOW := hide (fun (hs : SmallM m) W (hW : Below w.heap.size w W) => ownM_any (h.below hW) hs)
  have HAW := hide (fun W => awake_any W)
  have HMV := hide (fun W (hW : Below w.heap.size w W) => h.below hW)
  have HB0 := hide ((Below.refl w.heap.size w).alloc (Nat.le_refl _) (.cells #[.int .i64 m.k, .int .i64 m.f, .int .i64 m.t, .int .i64 m.tm, .int .i64 m.ix, .int .i64 m.lt, .int .i64 m.cm, .int .i64 m.rd, .bool m.ys, .bool m.dn, .slice pe ne ce, .slice pv nv cv, .slice pd nd cd] 26))
  have HX0 := hide (Box13.new w 26 (.int .i64 m.k) (.int .i64 m.f) (.int .i64 m.t) (.int .i64 m.tm) (.int .i64 m.ix) (.int .i64 m.lt) (.int .i64 m.cm) (.int .i64 m.rd) (.bool m.ys) (.bool m.dn) (.slice pe ne ce) (.slice pv nv cv) (.slice pd nd cd))
  have HB1 := hide (HB0.out.alloc HB0.out.size (.cells #[.int .i64 m.k, .int .i64 m.f, .int .i64 m.t, .int .i64 m.tm, .int .i64 m.ix, .int .i64 m.lt, .int .i64 m.cm, .int .i64 m.rd, .bool m.ys, .bool m.dn, .slice pe ne ce, .slice pv nv cv, .slice pd nd cd] 26))
  have hr1 := heap_alloc_new (w.alloc (.cells #[.int .i64 m.k, .int .i64 m.f, .int .i64 m.t, .int .i64 m.tm, .int .i64 m.ix, .int .i64 m.lt, .int .i64 m.cm, .int .i64 m.rd, .bool m.ys, .bool m.dn, .slice pe ne ce, .slice pv nv cv, .slice pd nd cd] 26)) (.cells #[.int .i64 m.k, .int .i64 m.f, .int .i64 m.t, .int .i64 m.tm, .int .i64 m.ix, .int .i64 m.lt, .int .i64 m.cm, .int .i64 m.rd, .bool m.ys, .bool m.dn, .slice pe ne ce, .slice pv nv cv, .slice pd nd cd] 26)
  have hzz : (w.alloc (.cells #[.int .i64 m.k, .int .i64 m.f, .int .i64 m.t, .int .i64 m.tm, .int .i64 m.ix, .int .i64 m.lt, .int .i64 m.cm, .int .i64 m.rd, .bool m.ys, .bool m.dn, .slice pe ne ce, .slice pv nv cv, .slice pd nd cd] 26)).heap.size = w.heap.size + 1 := by simp
  have HX1 := hide (HX0.out.below ((Below.refl _ _).alloc (Nat.le_refl _) (.cells #[.int .i64 m.k, .int .i64 m.f, .int .i64 m.t, .int .i64 m.tm, .int .i64 m.ix, .int .i64 m.lt, .int .i64 m.cm, .int .i64 m.rd, .bool m.ys, .bool m.dn, .slice pe ne ce, .slice pv nv cv, .slice pd nd cd] 26)))
  rw [hzz] at hr1
  have HWT := hide (weightS_any (mss_one hr1 (HMV.out _ HB1.out)))
  unfold PutPost msA at HPU HRP
  unfold OwnMPost msA at HOW
  unfold msA
  try dsimp only at HPU
  try dsimp only
  clear h hr1 hzz
  go_enter Try.func3, Try.ntmps3
  obtain ⟨y0, y1, y2, y3, y4, y5, y6, y7, y8, y9, y10, y11, y12⟩ := HX0.out
  go_wp2_with fail
  refine HWT.out.mono ?_
  rintro e w2 ⟨⟨x, rfl, hx⟩, hb2⟩
  have HB2 := hide (HB1.out.trans (hb2.mono HB1.out.size))
  have HX2 := hide (HX1.out.below hb2)
  clear hb2 y0 y1 y2 y3 y4 y5 y6 y7 y8 y9 y10 y11 y12
  by_cases hx6 : 65536 < x
  · have ex : decide (65536 < x) = true := decide_eq_true hx6
    clear hx
    go_wp2_with fail
    refine (HAW.out _).mono ?_
    rintro e w3 ⟨rfl, hb3⟩
    go_wp2
    go_ret
    exact ⟨rfl, HB2.out.trans (hb3.mono HB2.out.size)⟩
  · have ex : decide (65536 < x) = false := decide_eq_false hx6
    have HSM := hide ((hx.2.2 (by omega)).2 m (by simp))
    have HOM := hide (HOW.out HSM.out _ HB2.out)
    clear hx
    obtain ⟨y0, y1, y2, y3, y4, y5, y6, y7, y8, y9, y10, y11, y12⟩ := HX2.out
    go_wp2_with fail
    refine HOM.out.mono ?_
    rintro e w3 ⟨ue, uv, ud, rfl, hm3, hb3⟩
    obtain ⟨pe3, ne3, ce3, rfl⟩ := hm3.es.ens.sl
    obtain ⟨pv3, nv3, cv3, rfl⟩ := hm3.vs.ns.sl
    obtain ⟨pd3, nd3, cd3, rfl⟩ := hm3.d.by_.sl
    have b4 := (Below.refl w3.heap.size w3).alloc (Nat.le_refl _) (.cells #[.int .i64 m.k, .int .i64 m.f, .int .i64 m.t, .int .i64 m.tm, .int .i64 m.ix, .int .i64 m.lt, .int .i64 m.cm, .int .i64 m.rd, .bool m.ys, .bool m.dn, .slice pe3 ne3 ce3, .slice pv3 nv3 cv3, .slice pd3 nd3 cd3] 26)
    have HB3 := hide (HB2.out.trans (hb3.mono HB2.out.size))
    have HB4 := hide (HB3.out.trans (b4.mono HB3.out.size))
    have HX4 := hide (Box13.new w3 26 (.int .i64 m.k) (.int .i64 m.f) (.int .i64 m.t) (.int .i64 m.tm) (.int .i64 m.ix) (.int .i64 m.lt) (.int .i64 m.cm) (.int .i64 m.rd) (.bool m.ys) (.bool m.dn) (.slice pe3 ne3 ce3) (.slice pv3 nv3 cv3) (.slice pd3 nd3 cd3))
    have HY4 := hide ((HX2.out.below hb3).below b4)
    have HM4 := hide (hm3.v.below b4)
    have HP4 := hide (HPU.out m _ _ _ _ HM4.out)
    clear hm3 hb3 b4 y0 y1 y2 y3 y4 y5 y6 y7 y8 y9 y10 y11 y12
    obtain ⟨z0, z1, z2, z3, z4, z5, z6, z7, z8, z9, z10, z11, z12⟩ := HX4.out
    go_wp2_with fail
    refine HP4.out.mono ?_
    rintro e w5 ⟨v5, rfl, ho5, hb5⟩
    obtain ⟨p5, n5, c5, rfl⟩ := ho5.by_.sl
    have HB5 := hide (HB4.out.trans (hb5.mono HB4.out.size))
    have HY5 := hide (HY4.out.below hb5)
    have HX5 := hide (HX4.out.below hb5)
    have HM5 := hide (HM4.out.below hb5)
    have HO5 := hide ho5.by_
    clear hb5 ho5 z0 z1 z2 z3 z4 z5 z6 z7 z8 z9 z10 z11 z12
    obtain ⟨y0, y1, y2, y3, y4, y5, y6, y7, y8, y9, y10, y11, y12⟩ := HY5.out
    go_wp2_with fail
    refine (HRP.out _ HB5.out).mono ?_
    rintro e w6 ⟨v6, rfl, ho6, hb6⟩
    obtain ⟨p6, n6, c6, rfl⟩ := ho6.by_.sl
    have HB6 := hide (HB5.out.trans (hb6.mono HB5.out.size))
    have HEQ := hide (equal_any (HO5.out.below hb6) ho6.by_)
    rw [beq_self_eq_true] at HEQ
    have HSA := hide (sameM_any (HM5.out.below hb6) (HMV.out _ HB6.out))
    unfold msA at HSA
    have HY6 := hide (HY5.out.below hb6)
    have HX6 := hide (HX5.out.below hb6)
    clear hb6 ho6 y0 y1 y2 y3 y4 y5 y6 y7 y8 y9 y10 y11 y12
    obtain ⟨y0, y1, y2, y3, y4, y5, y6, y7, y8, y9, y10, y11, y12⟩ := HY6.out
    obtain ⟨z0, z1, z2, z3, z4, z5, z6, z7, z8, z9, z10, z11, z12⟩ := HX6.out
    obtain ⟨ck, hck⟩ : ∃ c, chkM m = c := ⟨_, rfl⟩
    rw [hck]
    have hqq : (ck == ck) = true := beq_self_eq_true _
    clear hck
    go_wp2_with fail
    refine HEQ.out.mono ?_
    rintro e w7 ⟨rfl, rfl⟩
    go_wp2_with fail
    refine HSA.out.mono ?_
    rintro e w8 ⟨rfl, hb8⟩
    have HB8 := hide (HB6.out.trans (hb8.mono HB6.out.size))
    clear hb8 y0 y1 y2 y3 y4 y5 y6 y7 y8 y9 y10 y11 y12 z0 z1 z2 z3 z4 z5 z6 z7 z8 z9 z10 z11 z12
    go_wp2_with fail
    refine (HAW.out _).mono ?_
    rintro e w9 ⟨rfl, hb9⟩
    go_wp2
    go_ret
    exact ⟨rfl, HB8.out.trans (hb9.mono HB8.out.size)⟩
end Go.Proofs.Ytiiollgipfggmaa
