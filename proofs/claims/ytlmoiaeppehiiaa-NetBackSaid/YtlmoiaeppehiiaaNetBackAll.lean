/- A message is read as it was put; bytes that are read are put again as they were. -/
import Derived.Test.YtlmoiaeppehiiaaNCode
import Derived.Test.YtlmoiaeppehiiaaRows
import Derived.WalkKit
import Derived.ProofKit
import Derived.OpenShut
import Derived.ShutString
import Derived.ChangeOld
import Derived.Below
import Derived.SizedLaws
/- A message is read as it was put; bytes that are read are put again as they were. -/
namespace Go.Proofs.Ytlmoiaeppehiiaa
set_option linter.unusedVariables false
set_option linter.unusedSimpArgs false
open Go.RowKit

theorem getI_no {l : List UInt8} {x : Ms} {e : Int} (h : getI l = (x, e)) (he : ¬ e = 0) : x = ms0 := by
  unfold getI at h
  split at h
  · injection h with h1 h2
    exact h1.symm
  · split at h
    · injection h with h1 h2
      exact h1.symm
    · split at h
      · injection h with h1 h2
        exact absurd h2.symm he
      · injection h with h1 h2
        exact h1.symm
theorem getI_yes {l : List UInt8} {x : Ms} (h : getI l = (x, 0)) : okM x = true ∧ recL (payL x) = l := by
  unfold getI at h
  obtain ⟨P, K, E, hP⟩ : ∃ P K E, pickL l = (P, K, E) := ⟨_, _, _, rfl⟩
  rw [hP] at h
  dsimp only at h
  by_cases hE : E = 0
  · subst hE
    rw [if_neg (by omega)] at h
    obtain ⟨h1, h2, _, _⟩ := pick_ok hP
    by_cases hK : K < l.length
    · rw [if_pos hK] at h
      injection h with _ h
      omega
    · rw [if_neg hK] at h
      by_cases hq : (okM (readP P) && (payL (readP P) == P)) = true
      · rw [if_pos hq] at h
        injection h with hx _
        rw [Bool.and_eq_true] at hq
        have h3 : payL (readP P) = P := by simpa using hq.2
        rw [← hx]
        refine ⟨hq.1, ?_⟩
        rw [h3, ← h2, List.take_of_length_le (by omega)]
      · rw [if_neg hq] at h
        injection h with _ h
        omega
  · rw [if_pos hE] at h
    injection h with _ h
    omega
theorem getI_put {m : Ms} (h : MIn m) : getI (recL (payL m)) = (m, 0) := by
  have hl := h.len
  have hp := pick_rec (payL m) (by omega) []
  rw [List.append_nil] at hp
  unfold getI
  rw [hp]
  dsimp only
  rw [if_neg (by omega), if_neg (by omega), h.read, h.ok]
  simp
theorem mss_one {W : World} {b : Nat} {m : Ms} {pe pv pd : Option Addr} {ne ce nv cv nd cd : Nat} (hr : W.heap[b]? = some (.cells #[.int .i64 m.k, .int .i64 m.f, .int .i64 m.t, .int .i64 m.tm, .int .i64 m.ix, .int .i64 m.lt, .int .i64 m.cm, .int .i64 m.rd, .bool m.ys, .bool m.dn, .slice pe ne ce, .slice pv nv cv, .slice pd nd cd] 26 (0, 0))) (h : MsV W m (.slice pe ne ce) (.slice pv nv cv) (.slice pd nd cd)) : Mss W (.slice (some ⟨b, 0, none⟩) 1 1) [m] := by
  refine ⟨_, 1, rfl, Nat.le_refl _, by decide, fun k x hk => ?_⟩
  match k, hk with
  | 0, hk =>
    simp at hk
    subst hk
    refine ⟨b, 0, _, _, _, rfl, h, fun j x hj => ?_⟩
    have hjl := (List.getElem?_eq_some_iff.1 hj).1
    rw [cell_of_row W b _ _ _ (0, 0) hr]
    rw [← hj]
    have h13 : j < 13 := hjl
    match j, h13 with
    | 0, _ => rfl
    | 1, _ => rfl
    | 2, _ => rfl
    | 3, _ => rfl
    | 4, _ => rfl
    | 5, _ => rfl
    | 6, _ => rfl
    | 7, _ => rfl
    | 8, _ => rfl
    | 9, _ => rfl
    | 10, _ => rfl
    | 11, _ => rfl
    | 12, _ => rfl
  | k + 1, hk => simp at hk

set_option maxRecDepth 200000 in
set_option maxHeartbeats 4000000 in
theorem lawBack_any {w : World} {m : Ms} {ve vv vd v : Value} {l : List UInt8} (h : MsV w m ve vv vd) (hb : By w v l) : Calls Try.prog 5 #[msA m ve vv vd, v] w fun e w' => e = .returned (.bool true) ∧ Below w.heap.size w w' := by
  obtain ⟨pe, ne, ce, rfl⟩ := h.es.sl
  obtain ⟨pv, nv, cv, rfl⟩ := h.vs.sl
  obtain ⟨pd, nd, cd, rfl⟩ := h.d.sl
  obtain ⟨p, n, c, rfl⟩ := hb.sl
  have hn64 := hb.lenMax
  have HPU := hide (fun W (hW : Below w.heap.size w W) => put_any (h.below hW))
  have HAW := hide (fun W => awake_any W)
  have HGB := hide (fun W (hW : Below w.heap.size w W) => get_any (hb.below hW))
  have HBY := hide (fun W (hW : Below w.heap.size w W) => hb.below hW)
  have HMV := hide (fun W (hW : Below w.heap.size w W) => h.below hW)
  have HIN := hide (fun ok : okM m = true => getI_put (⟨ok, h.fits, h.es.fits, h.vs.fits⟩ : MIn m))
  obtain ⟨R, hR⟩ : ∃ R, getI l = R := ⟨_, rfl⟩
  obtain ⟨x2, e2⟩ := R
  have HYES := hide (fun e : e2 = 0 => getI_yes (l := l) (x := x2) (by rw [hR, e]))
  have HNO := hide (fun e : ¬ e2 = 0 => getI_no hR e)
  rw [hR] at HGB
  have HB0 := hide ((Below.refl w.heap.size w).alloc (Nat.le_refl _) (.cells #[.int .i64 m.k, .int .i64 m.f, .int .i64 m.t, .int .i64 m.tm, .int .i64 m.ix, .int .i64 m.lt, .int .i64 m.cm, .int .i64 m.rd, .bool m.ys, .bool m.dn, .slice pe ne ce, .slice pv nv cv, .slice pd nd cd] 26))
  have HX0 := hide (Box13.new w 26 (.int .i64 m.k) (.int .i64 m.f) (.int .i64 m.t) (.int .i64 m.tm) (.int .i64 m.ix) (.int .i64 m.lt) (.int .i64 m.cm) (.int .i64 m.rd) (.bool m.ys) (.bool m.dn) (.slice pe ne ce) (.slice pv nv cv) (.slice pd nd cd))
  have HB1 := hide (HB0.out.alloc HB0.out.size (.cells #[.int .i64 m.k, .int .i64 m.f, .int .i64 m.t, .int .i64 m.tm, .int .i64 m.ix, .int .i64 m.lt, .int .i64 m.cm, .int .i64 m.rd, .bool m.ys, .bool m.dn, .slice pe ne ce, .slice pv nv cv, .slice pd nd cd] 26))
  have hr1 := heap_alloc_new (w.alloc (.cells #[.int .i64 m.k, .int .i64 m.f, .int .i64 m.t, .int .i64 m.tm, .int .i64 m.ix, .int .i64 m.lt, .int .i64 m.cm, .int .i64 m.rd, .bool m.ys, .bool m.dn, .slice pe ne ce, .slice pv nv cv, .slice pd nd cd] 26)) (.cells #[.int .i64 m.k, .int .i64 m.f, .int .i64 m.t, .int .i64 m.tm, .int .i64 m.ix, .int .i64 m.lt, .int .i64 m.cm, .int .i64 m.rd, .bool m.ys, .bool m.dn, .slice pe ne ce, .slice pv nv cv, .slice pd nd cd] 26)
  have hzz : (w.alloc (.cells #[.int .i64 m.k, .int .i64 m.f, .int .i64 m.t, .int .i64 m.tm, .int .i64 m.ix, .int .i64 m.lt, .int .i64 m.cm, .int .i64 m.rd, .bool m.ys, .bool m.dn, .slice pe ne ce, .slice pv nv cv, .slice pd nd cd] 26)).heap.size = w.heap.size + 1 := by simp
  have HX1 := hide (HX0.out.below ((Below.refl _ _).alloc (Nat.le_refl _) (.cells #[.int .i64 m.k, .int .i64 m.f, .int .i64 m.t, .int .i64 m.tm, .int .i64 m.ix, .int .i64 m.lt, .int .i64 m.cm, .int .i64 m.rd, .bool m.ys, .bool m.dn, .slice pe ne ce, .slice pv nv cv, .slice pd nd cd] 26)))
  have HZ1 : Hid (w.heap.size < ((w.alloc (.cells #[.int .i64 m.k, .int .i64 m.f, .int .i64 m.t, .int .i64 m.tm, .int .i64 m.ix, .int .i64 m.lt, .int .i64 m.cm, .int .i64 m.rd, .bool m.ys, .bool m.dn, .slice pe ne ce, .slice pv nv cv, .slice pd nd cd] 26)).alloc (.cells #[.int .i64 m.k, .int .i64 m.f, .int .i64 m.t, .int .i64 m.tm, .int .i64 m.ix, .int .i64 m.lt, .int .i64 m.cm, .int .i64 m.rd, .bool m.ys, .bool m.dn, .slice pe ne ce, .slice pv nv cv, .slice pd nd cd] 26)).heap.size) := hide (lt_of_cell HX1.out.c0)
  rw [hzz] at hr1
  have HWT := hide (weight_any (mss_one hr1 (HMV.out _ HB1.out)))
  unfold PutPost at HPU
  unfold PeekPost at HGB
  obtain ⟨q, hq⟩ : ∃ q, okM m = q := ⟨_, rfl⟩
  unfold putL chkM at HPU
  rw [hq] at HPU HIN
  unfold msA at HPU ⊢
  try dsimp only at HPU
  try dsimp only
  clear h hb hr1 hzz hR hq
  go_enter Try.func5, Try.ntmps5
  obtain ⟨y0, y1, y2, y3, y4, y5, y6, y7, y8, y9, y10, y11, y12⟩ := HX0.out
  go_wp2_with fail
  refine HWT.out.mono ?_
  rintro e w2 ⟨⟨x, rfl⟩, hb2⟩
  have HB2 := hide (HB1.out.trans (hb2.mono HB1.out.size))
  have HX2 := hide (HX1.out.below hb2)
  have HZ2 : Hid (w.heap.size < w2.heap.size) := hide (by have := HZ1.out; have := hb2.size; omega)
  clear hb2 y0 y1 y2 y3 y4 y5 y6 y7 y8 y9 y10 y11 y12
  by_cases hx : 65536 < x
  · have ex : decide (65536 < x) = true := decide_eq_true hx
    go_wp2_with fail
    refine (HAW.out _).mono ?_
    rintro e w3 ⟨rfl, hb3⟩
    go_wp2
    go_ret
    exact ⟨rfl, HB2.out.trans (hb3.mono HB2.out.size)⟩
  · have ex : decide (65536 < x) = false := decide_eq_false hx
    by_cases hn : 65536 < (n : Int)
    · have en : decide (65536 < (n : Int)) = true := decide_eq_true hn
      go_wp2_with fail
      refine (HAW.out _).mono ?_
      rintro e w3 ⟨rfl, hb3⟩
      go_wp2
      go_ret
      exact ⟨rfl, HB2.out.trans (hb3.mono HB2.out.size)⟩
    · have en : decide (65536 < (n : Int)) = false := decide_eq_false hn
      obtain ⟨y0, y1, y2, y3, y4, y5, y6, y7, y8, y9, y10, y11, y12⟩ := HX2.out
      go_wp2_with fail
      refine (HPU.out _ HB2.out).mono ?_
      rintro e w3 ⟨v3, rfl, ho3, hb3⟩
      obtain ⟨p3, n3, c3, rfl⟩ := ho3.by_.sl
      have HB3 := hide (HB2.out.trans (hb3.mono HB2.out.size))
      have HX3 := hide (HX2.out.below hb3)
      have HO3 := hide ho3.by_
      clear hb3 ho3 y0 y1 y2 y3 y4 y5 y6 y7 y8 y9 y10 y11 y12
      cases q with
      | false =>
        simp only [Bool.false_eq_true, if_false] at HO3 ⊢
        go_wp2_with fail
        refine (HGB.out _ HB3.out).mono ?_
        rintro e w7 ⟨ue, uv, ud, rfl, hm7, hb7⟩
        obtain ⟨pe7, ne7, ce7, rfl⟩ := hm7.es.ens.sl
        obtain ⟨pv7, nv7, cv7, rfl⟩ := hm7.vs.ns.sl
        obtain ⟨pd7, nd7, cd7, rfl⟩ := hm7.d.by_.sl
        have HM7 := hide hm7
        have HB7 := hide (HB3.out.trans (hb7.mono HB3.out.size))
        clear hm7 hb7
        by_cases he2 : e2 = 0
        · subst he2
          have hY := HYES.out rfl
          have HX7 := hide (Box13.new w7 26 (.int .i64 x2.k) (.int .i64 x2.f) (.int .i64 x2.t) (.int .i64 x2.tm) (.int .i64 x2.ix) (.int .i64 x2.lt) (.int .i64 x2.cm) (.int .i64 x2.rd) (.bool x2.ys) (.bool x2.dn) (.slice pe7 ne7 ce7) (.slice pv7 nv7 cv7) (.slice pd7 nd7 cd7))
          have b8 := (Below.refl w7.heap.size w7).alloc (Nat.le_refl _) (.cells #[.int .i64 x2.k, .int .i64 x2.f, .int .i64 x2.t, .int .i64 x2.tm, .int .i64 x2.ix, .int .i64 x2.lt, .int .i64 x2.cm, .int .i64 x2.rd, .bool x2.ys, .bool x2.dn, .slice pe7 ne7 ce7, .slice pv7 nv7 cv7, .slice pd7 nd7 cd7] 26)
          have HB8 := hide (HB7.out.trans (b8.mono HB7.out.size))
          have HM8 := hide (HM7.out.v.below b8)
          have HP8 := hide (put_any HM8.out)
          unfold PutPost putL chkM at HP8
          rw [hY.1, hY.2] at HP8
          simp only [if_true] at HP8
          unfold msA at HP8 ⊢
          dsimp only
          obtain ⟨y0, y1, y2, y3, y4, y5, y6, y7, y8, y9, y10, y11, y12⟩ := HX7.out
          clear b8 hY
          go_wp2_with fail
          refine HP8.out.mono ?_
          rintro e w9 ⟨v9, rfl, ho9, hb9⟩
          obtain ⟨p9, n9, c9, rfl⟩ := ho9.by_.sl
          have HB9 := hide (HB8.out.trans (hb9.mono HB8.out.size))
          have HEQ := hide (equal_any ho9.by_ (HBY.out _ HB9.out))
          rw [beq_self_eq_true] at HEQ
          clear ho9 hb9 y0 y1 y2 y3 y4 y5 y6 y7 y8 y9 y10 y11 y12
          go_wp2_with fail
          refine HEQ.out.mono ?_
          rintro e w10 ⟨rfl, rfl⟩
          go_wp2_with fail
          refine (HAW.out _).mono ?_
          rintro e w11 ⟨rfl, hb11⟩
          go_wp2
          go_ret
          exact ⟨rfl, HB9.out.trans (hb11.mono HB9.out.size)⟩
        · obtain rfl : x2 = ms0 := HNO.out he2
          have HX7 := hide (Box13.new w7 26 (.int .i64 0) (.int .i64 0) (.int .i64 0) (.int .i64 0) (.int .i64 0) (.int .i64 0) (.int .i64 0) (.int .i64 0) (.bool false) (.bool false) (.slice pe7 ne7 ce7) (.slice pv7 nv7 cv7) (.slice pd7 nd7 cd7))
          have b8 := (Below.refl w7.heap.size w7).alloc (Nat.le_refl _) (.cells #[.int .i64 0, .int .i64 0, .int .i64 0, .int .i64 0, .int .i64 0, .int .i64 0, .int .i64 0, .int .i64 0, .bool false, .bool false, .slice pe7 ne7 ce7, .slice pv7 nv7 cv7, .slice pd7 nd7 cd7] 26)
          have HB8 := hide (HB7.out.trans (b8.mono HB7.out.size))
          have HS8 := hide (sameM_any (HM7.out.v.below b8) ((MsO.zero w7.heap.size (w7.alloc (.cells #[.int .i64 0, .int .i64 0, .int .i64 0, .int .i64 0, .int .i64 0, .int .i64 0, .int .i64 0, .int .i64 0, .bool false, .bool false, .slice pe7 ne7 ce7, .slice pv7 nv7 cv7, .slice pd7 nd7 cd7] 26))).v))
          unfold msA ms0 at HS8 ⊢
          try dsimp only at HS8
          try dsimp only
          obtain ⟨y0, y1, y2, y3, y4, y5, y6, y7, y8, y9, y10, y11, y12⟩ := HX7.out
          clear b8
          go_wp2_with fail
          refine HS8.out.mono ?_
          rintro e w9 ⟨rfl, hb9⟩
          have HB9 := hide (HB8.out.trans (hb9.mono HB8.out.size))
          clear hb9 y0 y1 y2 y3 y4 y5 y6 y7 y8 y9 y10 y11 y12
          go_wp2_with fail
          refine (HAW.out _).mono ?_
          rintro e w11 ⟨rfl, hb11⟩
          go_wp2
          go_ret
          exact ⟨rfl, HB9.out.trans (hb11.mono HB9.out.size)⟩
      | true =>
        simp only [if_true] at HO3 ⊢
        have HG3 := hide (get_any HO3.out)
        rw [HIN.out rfl] at HG3
        unfold PeekPost at HG3
        go_wp2_with fail
        refine HG3.out.mono ?_
        rintro e w4 ⟨ue, uv, ud, rfl, hm4, hb4⟩
        obtain ⟨pe4, ne4, ce4, rfl⟩ := hm4.es.ens.sl
        obtain ⟨pv4, nv4, cv4, rfl⟩ := hm4.vs.ns.sl
        obtain ⟨pd4, nd4, cd4, rfl⟩ := hm4.d.by_.sl
        have HB4 := hide (HB3.out.trans (hb4.mono HB3.out.size))
        have b5 := (Below.refl w4.heap.size w4).alloc (Nat.le_refl _) (.cells #[.int .i64 m.k, .int .i64 m.f, .int .i64 m.t, .int .i64 m.tm, .int .i64 m.ix, .int .i64 m.lt, .int .i64 m.cm, .int .i64 m.rd, .bool m.ys, .bool m.dn, .slice pe4 ne4 ce4, .slice pv4 nv4 cv4, .slice pd4 nd4 cd4] 26)
        have HB5 := hide (HB4.out.trans (b5.mono HB4.out.size))
        have HX4 := hide (Box13.new w4 26 (.int .i64 m.k) (.int .i64 m.f) (.int .i64 m.t) (.int .i64 m.tm) (.int .i64 m.ix) (.int .i64 m.lt) (.int .i64 m.cm) (.int .i64 m.rd) (.bool m.ys) (.bool m.dn) (.slice pe4 ne4 ce4) (.slice pv4 nv4 cv4) (.slice pd4 nd4 cd4))
        have HX5 := hide ((HX3.out.below hb4).below b5)
        have HS5 := hide (sameM_any (hm4.v.below b5) (HMV.out _ HB5.out))
        unfold msA at HS5 ⊢
        try dsimp only at HS5
        try dsimp only
        obtain ⟨y0, y1, y2, y3, y4, y5, y6, y7, y8, y9, y10, y11, y12⟩ := HX5.out
        obtain ⟨z0, z1, z2, z3, z4, z5, z6, z7, z8, z9, z10, z11, z12⟩ := HX4.out
        clear hm4 hb4 b5
        go_wp2_with fail
        refine HS5.out.mono ?_
        rintro e w6 ⟨rfl, hb6⟩
        have HB6 := hide (HB5.out.trans (hb6.mono HB5.out.size))
        clear hb6 y0 y1 y2 y3 y4 y5 y6 y7 y8 y9 y10 y11 y12 z0 z1 z2 z3 z4 z5 z6 z7 z8 z9 z10 z11 z12
        go_wp2_with fail
        refine (HGB.out _ HB6.out).mono ?_
        rintro e w7 ⟨ue, uv, ud, rfl, hm7, hb7⟩
        obtain ⟨pe7, ne7, ce7, rfl⟩ := hm7.es.ens.sl
        obtain ⟨pv7, nv7, cv7, rfl⟩ := hm7.vs.ns.sl
        obtain ⟨pd7, nd7, cd7, rfl⟩ := hm7.d.by_.sl
        have HM7 := hide hm7
        have HB7 := hide (HB6.out.trans (hb7.mono HB6.out.size))
        clear hm7 hb7
        by_cases he2 : e2 = 0
        · subst he2
          have hY := HYES.out rfl
          have HX7 := hide (Box13.new w7 26 (.int .i64 x2.k) (.int .i64 x2.f) (.int .i64 x2.t) (.int .i64 x2.tm) (.int .i64 x2.ix) (.int .i64 x2.lt) (.int .i64 x2.cm) (.int .i64 x2.rd) (.bool x2.ys) (.bool x2.dn) (.slice pe7 ne7 ce7) (.slice pv7 nv7 cv7) (.slice pd7 nd7 cd7))
          have b8 := (Below.refl w7.heap.size w7).alloc (Nat.le_refl _) (.cells #[.int .i64 x2.k, .int .i64 x2.f, .int .i64 x2.t, .int .i64 x2.tm, .int .i64 x2.ix, .int .i64 x2.lt, .int .i64 x2.cm, .int .i64 x2.rd, .bool x2.ys, .bool x2.dn, .slice pe7 ne7 ce7, .slice pv7 nv7 cv7, .slice pd7 nd7 cd7] 26)
          have HB8 := hide (HB7.out.trans (b8.mono HB7.out.size))
          have HM8 := hide (HM7.out.v.below b8)
          have HP8 := hide (put_any HM8.out)
          unfold PutPost putL chkM at HP8
          rw [hY.1, hY.2] at HP8
          simp only [if_true] at HP8
          unfold msA at HP8 ⊢
          dsimp only
          obtain ⟨y0, y1, y2, y3, y4, y5, y6, y7, y8, y9, y10, y11, y12⟩ := HX7.out
          clear b8 hY
          go_wp2_with fail
          refine HP8.out.mono ?_
          rintro e w9 ⟨v9, rfl, ho9, hb9⟩
          obtain ⟨p9, n9, c9, rfl⟩ := ho9.by_.sl
          have HB9 := hide (HB8.out.trans (hb9.mono HB8.out.size))
          have HEQ := hide (equal_any ho9.by_ (HBY.out _ HB9.out))
          rw [beq_self_eq_true] at HEQ
          clear ho9 hb9 y0 y1 y2 y3 y4 y5 y6 y7 y8 y9 y10 y11 y12
          go_wp2_with fail
          refine HEQ.out.mono ?_
          rintro e w10 ⟨rfl, rfl⟩
          go_wp2_with fail
          refine (HAW.out _).mono ?_
          rintro e w11 ⟨rfl, hb11⟩
          go_wp2
          go_ret
          exact ⟨rfl, HB9.out.trans (hb11.mono HB9.out.size)⟩
        · obtain rfl : x2 = ms0 := HNO.out he2
          have HX7 := hide (Box13.new w7 26 (.int .i64 0) (.int .i64 0) (.int .i64 0) (.int .i64 0) (.int .i64 0) (.int .i64 0) (.int .i64 0) (.int .i64 0) (.bool false) (.bool false) (.slice pe7 ne7 ce7) (.slice pv7 nv7 cv7) (.slice pd7 nd7 cd7))
          have b8 := (Below.refl w7.heap.size w7).alloc (Nat.le_refl _) (.cells #[.int .i64 0, .int .i64 0, .int .i64 0, .int .i64 0, .int .i64 0, .int .i64 0, .int .i64 0, .int .i64 0, .bool false, .bool false, .slice pe7 ne7 ce7, .slice pv7 nv7 cv7, .slice pd7 nd7 cd7] 26)
          have HB8 := hide (HB7.out.trans (b8.mono HB7.out.size))
          have HS8 := hide (sameM_any (HM7.out.v.below b8) ((MsO.zero w7.heap.size (w7.alloc (.cells #[.int .i64 0, .int .i64 0, .int .i64 0, .int .i64 0, .int .i64 0, .int .i64 0, .int .i64 0, .int .i64 0, .bool false, .bool false, .slice pe7 ne7 ce7, .slice pv7 nv7 cv7, .slice pd7 nd7 cd7] 26))).v))
          unfold msA ms0 at HS8 ⊢
          try dsimp only at HS8
          try dsimp only
          obtain ⟨y0, y1, y2, y3, y4, y5, y6, y7, y8, y9, y10, y11, y12⟩ := HX7.out
          clear b8
          go_wp2_with fail
          refine HS8.out.mono ?_
          rintro e w9 ⟨rfl, hb9⟩
          have HB9 := hide (HB8.out.trans (hb9.mono HB8.out.size))
          clear hb9 y0 y1 y2 y3 y4 y5 y6 y7 y8 y9 y10 y11 y12
          go_wp2_with fail
          refine (HAW.out _).mono ?_
          rintro e w11 ⟨rfl, hb11⟩
          go_wp2
          go_ret
          exact ⟨rfl, HB9.out.trans (hb11.mono HB9.out.size)⟩
end Go.Proofs.Ytlmoiaeppehiiaa
/- A message is read as it was put; bytes that are read are put again as they were. No condition. -/
namespace Go.Proofs.Ytlmoiaeppehiiaa.netBack
open Go.ChangeShapes Go.WideShapes Go.ChangeAt Go.RowKit
open Go.ChangeMaps (open_string shut_string)
set_option linter.unusedVariables false

theorem own : ownKnob Try.prog.godebug = none := by kernel_rfl
theorem laidOut : laidOutB Try.prog = true := by kernel_rfl

set_option maxRecDepth 100000 in
theorem lifted (os : Os) (started : os.Started) (H : Type) (enc : TypeId × Value → H) :
    ReturnsInHanded {} Try.checked os 5 .any (Rows.netBackSpec.pre6 enc Try.prog Try.f5 Rows.netBackRow.domain false) (Rows.netBackSpec.post enc Try.prog Try.f5 false true false false) := by
  refine returnsInHanded_of_change_sized (C := Try.checked) own started (by kernel_rfl) Try.func5
    (ChangeSpec.witness6 (enc := enc) (C := Try.checked) false ⟨#[], #[.agg #[.int .i64 0, .int .i64 0, .int .i64 0, .int .i64 0, .int .i64 0, .int .i64 0, .int .i64 0, .int .i64 0, .bool false, .bool false, .slice none 0 0, .slice none 0 0, .slice none 0 0], .slice none 0 0], []⟩ 8 (by kernel_rfl) (by kernel_rfl) (by kernel_rfl) (by kernel_rfl)) ?_
  intro W base args ds gs before hval0 hW hcnd hsz0 _
  have hval : ∀ (j : Nat) t v, Try.f5.params[j]? = some t → args[j]? = some v → Value.okWide Try.prog W .any base t v := hval0
  have hsz : (DataW.weightsEach Try.prog (Try.f5.params.toList ++ Rows.netBackSpec.plain.varTypes Try.prog) (ds ++ gs)).all (· ≤ reachBytes) = true := hsz0
  have hW' := hW
  obtain ⟨p, q, hA0, hV, rfl, hfz, hnd⟩ := hW
  have hA : DataW.TrodAll enc Try.prog W 0 (fun _ => true) true Try.f5.params.toList args.toList ds p := hA0
  rw [Try.params5] at hA hval hsz
  obtain ⟨v0, vs0, d0, ds0, p0, q0, hargs, rfl, rfl, h0, r0⟩ := trodAll_cons hA
  obtain ⟨v1, vs1, d1, ds1, p1, q1, rfl, rfl, rfl, h1, r1⟩ := trodAll_cons r0
  obtain ⟨rfl, rfl, rfl⟩ := trodAll_nil r1
  obtain rfl : args = #[v0, v1] := by cases args; simp_all
  obtain ⟨rfl, rfl⟩ := trodVars_none hV
  have k0 := h0
  have lt0 : ∀ x ∈ p0, x.block < W.heap.size := by obtain ⟨m, hm⟩ := k0; exact DataW.trod_lt m _ _ _ hm
  obtain ⟨a1, len1, cap1, rfl⟩ := okWide_slice Try.underlying24 (hval 1 24 v1 rfl rfl)
  have k1 := h1
  have lt1 : ∀ x ∈ p1, x.block < W.heap.size := by obtain ⟨m, hm⟩ := k1; exact DataW.trod_lt m _ _ _ hm
  obtain ⟨m0, ve0, vv0, vd0, hv0, hM0⟩ := msg_of_arg (hval 0 26 v0 rfl rfl) h0
  obtain rfl := hv0
  obtain ⟨l1, hl1, hb1⟩ := by_of_arg h1
  clear hA0 hval0
  refine (lawBack_any hM0 hb1).mono fun e W' ⟨he, bel⟩ => ?_
  subst he
  exact ⟨_, rfl, _, _, _, [], _, [], hW', trodAll_mk1 (shut_bool Try.underlying4 _), (trodAll_cons_mk (Below.trod laidOut (by kernel_rfl) (of_decide_eq_true (by kernel_rfl)) k0 bel lt0) (trodAll_cons_mk (Below.trod laidOut (by kernel_rfl) (of_decide_eq_true (by kernel_rfl)) k1 bel lt1) trodAll_mk0)), rfl, bel.frame _, fun h => by cases h⟩

theorem over : Rows.netBackRow.holds Try.pinned (OpenSpec.ofChange Rows.netBackSpec) :=
  OpenClaim.holds_of_wide 5 Try.f5 rfl rfl rfl rfl rfl rfl rfl ⟨rfl, rfl, rfl, rfl, rfl⟩ rfl rfl rfl rfl rfl (by kernel_rfl) Try.func5 (by kernel_rfl)
    (of_decide_eq_true (by kernel_rfl)) (by unfold Func.isWrapper; first | (rw [if_pos (by decide +kernel)]; kernel_rfl) | (rw [if_neg (by decide +kernel)]; exact ⟨rfl, rfl⟩))
    (fun os started H enc _ => lifted os started H enc)

theorem proved : Rows.NetBackSaid := over
end Go.Proofs.Ytlmoiaeppehiiaa.netBack
