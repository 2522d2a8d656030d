/- Take of a bag. -/
import Derived.Test.YtiiollgipfggmaaNOps
import Derived.Deep.RegionHeld3
namespace Go.Proofs.Ytiiollgipfggmaa
set_option linter.unusedVariables false
set_option linter.unusedSimpArgs false
open Go.RowKit

/-- What Take says. -/
def TakePost (B : Nat) (w : World) (g : Nat) (v : Value) (x : Bg) (id : Int) (e : Ending) (w' : World) : Prop := ∃ ve vv vd, e = .returned (.tuple #[msA (peekI x id).1 ve vv vd, .int .i64 (hitE x id)]) ∧ MsO w.heap.size w' (peekI x id).1 ve vv vd ∧ ∃ v', BgIs B w' g v' (loseI x id) ∧ Chg w w' (BgS g v)

set_option maxRecDepth 200000 in
set_option maxHeartbeats 4000000 in
theorem take_bag {B : Nat} {w : World} {g : Nat} {v : Value} {x : Bg} (h : BgIs B w g v x) (id : Int) : Calls Try.prog 24 #[.pointer (some ⟨g, 0, none⟩), .int .i64 id] w (TakePost B w g v x id) := by
  obtain ⟨X, hX⟩ : ∃ X, w.alloc (.cells #[.int .i64 0, .int .i64 0, .int .i64 0, .int .i64 0, .int .i64 0, .int .i64 0, .int .i64 0, .int .i64 0, .bool false, .bool false, .slice none 0 0, .slice none 0 0, .slice none 0 0] 26) = X := ⟨_, rfl⟩
  have hrX : X.heap[w.heap.size]? = some (.cells #[.int .i64 0, .int .i64 0, .int .i64 0, .int .i64 0, .int .i64 0, .int .i64 0, .int .i64 0, .int .i64 0, .bool false, .bool false, .slice none 0 0, .slice none 0 0, .slice none 0 0] 26 (0, 0)) := by rw [← hX]; exact heap_alloc_new w _
  have hbX : Below w.heap.size w X := by rw [← hX]; exact (Below.refl _ _).alloc (Nat.le_refl _) _
  have hwX : w.heap.size < X.heap.size := (Array.getElem?_eq_some_iff.1 hrX).1
  have h1 := h.below hbX
  have HS := hide (fun k (hk : BgS g v k) => (h.S k hk).2)
  have HTW := hide h.T
  have HP := hide (peek_bag h1 id)
  have HH := hide h1
  have HRX := hide hrX
  have HBX := hide hbX
  have HWX := hide hwX
  have HX := hide hX
  unfold TakePost
  obtain ⟨q, hq⟩ : ∃ q, peekI x id = q := ⟨_, rfl⟩
  rw [hq] at HP ⊢
  obtain ⟨m, E⟩ := q
  dsimp only at HP ⊢
  clear h h1 hrX hwX hX hq
  go_enter Try.func24, Try.ntmps24
  go_wp2_with fail
  rw [HX.out]
  refine HP.out.mono ?_
  rintro e w2 ⟨ve, vv, vd, rfl, hmo, hb2⟩
  obtain ⟨pe, ne, ce, rfl⟩ := hmo.es.ens.sl
  obtain ⟨pv, nv, cv, rfl⟩ := hmo.vs.ns.sl
  obtain ⟨pd, nd, cd, rfl⟩ := hmo.d.by_.sl
  unfold msA
  dsimp only
  have hbY := (Below.refl w2.heap.size w2).alloc (Nat.le_refl _) (.cells #[.int .i64 m.k, .int .i64 m.f, .int .i64 m.t, .int .i64 m.tm, .int .i64 m.ix, .int .i64 m.lt, .int .i64 m.cm, .int .i64 m.rd, .bool m.ys, .bool m.dn, .slice pe ne ce, .slice pv nv cv, .slice pd nd cd] 26)
  have hrY := heap_alloc_new w2 (.cells #[.int .i64 m.k, .int .i64 m.f, .int .i64 m.t, .int .i64 m.tm, .int .i64 m.ix, .int .i64 m.lt, .int .i64 m.cm, .int .i64 m.rd, .bool m.ys, .bool m.dn, .slice pe ne ce, .slice pv nv cv, .slice pd nd cd] 26)
  obtain ⟨Y, hY⟩ : ∃ Y, w2.alloc (.cells #[.int .i64 m.k, .int .i64 m.f, .int .i64 m.t, .int .i64 m.tm, .int .i64 m.ix, .int .i64 m.lt, .int .i64 m.cm, .int .i64 m.rd, .bool m.ys, .bool m.dn, .slice pe ne ce, .slice pv nv cv, .slice pd nd cd] 26) = Y := ⟨_, rfl⟩
  rw [hY] at hbY hrY
  have hX6 := Box13.of_row hrY
  have hXY : Below X.heap.size X Y := hb2.trans (hbY.mono hb2.size)
  have HXY := hide hXY
  have HW2 := hide (show w.heap.size < w2.heap.size by have := HWX.out; have := hb2.size; omega)
  have HMO := hide ((hmo.below hbY).mono (B' := w.heap.size) (by have := HWX.out; omega))
  have HMB := hide hmo
  have HBY := hide hbY
  have HLO := hide (fun V (hV : Below Y.heap.size Y V) => lose_bag ((HH.out.below hXY).below hV) ((HTW.out.below (hbX.trans (hXY.mono hbX.size))).below hV) id)
  have HRY := hide ((hXY.block _ HWX.out).trans HRX.out)
  have HX6 := hide hX6
  obtain ⟨b6, hb6⟩ : ∃ b, w2.heap.size = b := ⟨_, rfl⟩
  rw [hb6] at hX6 HX6
  have HB6 := hide hb6
  obtain ⟨y0, y1, y2, y3, y4, y5, y6, y7, y8, y9, y10, y11, y12⟩ := hX6
  clear hmo hb2 hbY hrY hXY HP hbX
  go_wp2_with fail
  refine wp_region_held_drew (S := fun V => V.cell? ⟨b6, 0, none⟩ = some (.int .i64 m.k) ∧ V.cell? ⟨b6, 1, none⟩ = some (.int .i64 m.f) ∧ V.cell? ⟨b6, 2, none⟩ = some (.int .i64 m.t) ∧ V.cell? ⟨b6, 3, none⟩ = some (.int .i64 m.tm) ∧ V.cell? ⟨b6, 4, none⟩ = some (.int .i64 m.ix) ∧ V.cell? ⟨b6, 5, none⟩ = some (.int .i64 m.lt) ∧ V.cell? ⟨b6, 6, none⟩ = some (.int .i64 m.cm) ∧ V.cell? ⟨b6, 7, none⟩ = some (.int .i64 m.rd) ∧ V.cell? ⟨b6, 8, none⟩ = some (.bool m.ys) ∧ V.cell? ⟨b6, 9, none⟩ = some (.bool m.dn) ∧ V.cell? ⟨b6, 10, none⟩ = some (.slice pe ne ce) ∧ V.cell? ⟨b6, 11, none⟩ = some (.slice pv nv cv) ∧ V.cell? ⟨b6, 12, none⟩ = some (.slice pd nd cd)) (by kernel_rfl) ?_ (fun hHeld => ?_)
  · (try dsimp only)
    exact ⟨y0, y1, y2, y3, y4, y5, y6, y7, y8, y9, y10, y11, y12⟩
  refine wpAnyH_take (i := 0) (oi := { dst := some 14, op := Op.load 26 (Operand.tmp 6), type := 26, pos := "net.go:66", after := #[], guard := none }) (v := ?_) rfl (by kernel_rfl) (by kernel_rfl) (by kernel_rfl) (fun _ _ _ h => h) (Or.inl ⟨by rfl, ?_⟩) (by assumption) ?_
  rotate_left
  · intro w hSw
    (try dsimp only at hSw)
    go_simp
    try with_reducible rfl
  try simp only [Act.put, List.setIfInBounds_toArray, List.set_cons_zero, List.set_cons_succ]
  refine wpAnyH_take (i := 1) (oi := { dst := some 15, op := Op.move (Operand.tmp 0), type := 46, pos := "net.go:66", after := #[], guard := none }) (v := ?_) rfl (by kernel_rfl) (by kernel_rfl) (by kernel_rfl) (fun _ _ _ h => h) (Or.inl ⟨by rfl, ?_⟩) (by assumption) ?_
  rotate_left
  · intro w hSw
    (try dsimp only at hSw)
    go_simp
    try with_reducible rfl
  try simp only [Act.put, List.setIfInBounds_toArray, List.set_cons_zero, List.set_cons_succ]
  refine wpAnyH_take (i := 2) (oi := { dst := some 16, op := Op.move (Operand.tmp 1), type := 3, pos := "net.go:66", after := #[], guard := none }) (v := ?_) rfl (by kernel_rfl) (by kernel_rfl) (by kernel_rfl) (fun _ _ _ h => h) (Or.inl ⟨by rfl, ?_⟩) (by assumption) ?_
  rotate_left
  · intro w hSw
    (try dsimp only at hSw)
    go_simp
    try with_reducible rfl
  try simp only [Act.put, List.setIfInBounds_toArray, List.set_cons_zero, List.set_cons_succ]
  refine wpAnyH_ready (rs := [3]) (by kernel_rfl) (by simp) ?_
  refine AllReadyH.cons (o := { dst := some 17, op := Op.call { callee := Callee.value (Operand.func 26), args := #[Operand.tmp 15, Operand.tmp 16], argTypes := #[46, 3] }, type := 31, pos := "net.go:66", after := _, guard := none }) rfl (fun K hK => ?_) ?_
  · go_simp
    go_at_call 26
    refine (HLO.out _ (by first | exact Below.refl _ _ | exact bel_drewN (Below.refl _ _) _ | exact bel_drewN (Below.refl _ _) 1)).mono ?_
    rintro e w5 ⟨rfl, v5, hbg5, hc5⟩
    have HBG5 := hide hbg5
    have HC5 : Hid (Chg Y w5 (BgS g v)) := hide ⟨hc5.os, hc5.tape, hc5.output, hc5.size, hc5.block⟩
    have hR5 := (HC5.out.block w.heap.size (by have := HXY.out.size; have := HWX.out; omega) (fun hk => by have := HS.out _ hk; omega)).trans HRY.out
    have hkk : ∀ i u, Y.cell? ⟨b6, i, none⟩ = some u → w5.cell? ⟨b6, i, none⟩ = some u := (fun i u hu => HC5.out.cell hu (fun hk => by have := HS.out _ hk; have e6 : (⟨b6, i, none⟩ : Addr).block = b6 := rfl; have := HB6.out; have := HW2.out; omega))
    have KEEP5 := And.intro (hkk 0 _ y0) (And.intro (hkk 1 _ y1) (And.intro (hkk 2 _ y2) (And.intro (hkk 3 _ y3) (And.intro (hkk 4 _ y4) (And.intro (hkk 5 _ y5) (And.intro (hkk 6 _ y6) (And.intro (hkk 7 _ y7) (And.intro (hkk 8 _ y8) (And.intro (hkk 9 _ y9) (And.intro (hkk 10 _ y10) (And.intro (hkk 11 _ y11) (hkk 12 _ y12))))))))))))
    have HK5 := hide KEEP5
    have m0 := cell_of_row w5 w.heap.size 0 _ 26 (0, 0) hR5
    have mf0 := frozen_of_row w5 w.heap.size 0 _ 26 hR5
    have m1 := cell_of_row w5 w.heap.size 1 _ 26 (0, 0) hR5
    have mf1 := frozen_of_row w5 w.heap.size 1 _ 26 hR5
    have m2 := cell_of_row w5 w.heap.size 2 _ 26 (0, 0) hR5
    have mf2 := frozen_of_row w5 w.heap.size 2 _ 26 hR5
    have m3 := cell_of_row w5 w.heap.size 3 _ 26 (0, 0) hR5
    have mf3 := frozen_of_row w5 w.heap.size 3 _ 26 hR5
    have m4 := cell_of_row w5 w.heap.size 4 _ 26 (0, 0) hR5
    have mf4 := frozen_of_row w5 w.heap.size 4 _ 26 hR5
    have m5 := cell_of_row w5 w.heap.size 5 _ 26 (0, 0) hR5
    have mf5 := frozen_of_row w5 w.heap.size 5 _ 26 hR5
    have m6 := cell_of_row w5 w.heap.size 6 _ 26 (0, 0) hR5
    have mf6 := frozen_of_row w5 w.heap.size 6 _ 26 hR5
    have m7 := cell_of_row w5 w.heap.size 7 _ 26 (0, 0) hR5
    have mf7 := frozen_of_row w5 w.heap.size 7 _ 26 hR5
    have m8 := cell_of_row w5 w.heap.size 8 _ 26 (0, 0) hR5
    have mf8 := frozen_of_row w5 w.heap.size 8 _ 26 hR5
    have m9 := cell_of_row w5 w.heap.size 9 _ 26 (0, 0) hR5
    have mf9 := frozen_of_row w5 w.heap.size 9 _ 26 hR5
    have m10 := cell_of_row w5 w.heap.size 10 _ 26 (0, 0) hR5
    have mf10 := frozen_of_row w5 w.heap.size 10 _ 26 hR5
    have m11 := cell_of_row w5 w.heap.size 11 _ 26 (0, 0) hR5
    have mf11 := frozen_of_row w5 w.heap.size 11 _ 26 hR5
    have m12 := cell_of_row w5 w.heap.size 12 _ 26 (0, 0) hR5
    have mf12 := frozen_of_row w5 w.heap.size 12 _ 26 hR5
    simp only [List.getElem?_toArray, List.getElem?_cons_succ, List.getElem?_cons_zero] at m0 m1 m2 m3 m4 m5 m6 m7 m8 m9 m10 m11 m12
    have RVH := hide hR5
    clear hbg5 hc5 hR5 hkk KEEP5 y0 y1 y2 y3 y4 y5 y6 y7 y8 y9 y10 y11 y12
    first
      | refine hK.out _ _ ?_ (fun hHeld => ?_)
      | (go_wp2_with fail; refine hK.out _ _ ?_ (fun hHeld => ?_))
    · (try dsimp only)
      exact HK5.out
    clear hK K
    try simp only [Act.put, List.setIfInBounds_toArray, List.set_cons_zero, List.set_cons_succ]
    refine wpAnyH_ready (rs := [4]) (by kernel_rfl) (by simp) ?_
    refine AllReadyH.cons (o := { dst := none, op := Op.store 26 (Operand.tmp 4) (Operand.tmp 14), type := 0, pos := "net.go:66", after := _, guard := none }) rfl (fun K hK => ?_) ?_
    · go_simp
      have hs9 := set13 w5 w.heap.size 26 _ _ _ _ _ _ _ _ _ _ _ _ _ (.int .i64 m.k) (.int .i64 m.f) (.int .i64 m.t) (.int .i64 m.tm) (.int .i64 m.ix) (.int .i64 m.lt) (.int .i64 m.cm) (.int .i64 m.rd) (.bool m.ys) (.bool m.dn) (.slice pe ne ce) (.slice pv nv cv) (.slice pd nd cd) RVH.out
      have hG9 : w5.grownBy (((((((((((((w5.setCell ⟨w.heap.size, 0, none⟩ (.int .i64 m.k)).setCell ⟨w.heap.size, 1, none⟩ (.int .i64 m.f)).setCell ⟨w.heap.size, 2, none⟩ (.int .i64 m.t)).setCell ⟨w.heap.size, 3, none⟩ (.int .i64 m.tm)).setCell ⟨w.heap.size, 4, none⟩ (.int .i64 m.ix)).setCell ⟨w.heap.size, 5, none⟩ (.int .i64 m.lt)).setCell ⟨w.heap.size, 6, none⟩ (.int .i64 m.cm)).setCell ⟨w.heap.size, 7, none⟩ (.int .i64 m.rd)).setCell ⟨w.heap.size, 8, none⟩ (.bool m.ys)).setCell ⟨w.heap.size, 9, none⟩ (.bool m.dn)).setCell ⟨w.heap.size, 10, none⟩ (.slice pe ne ce)).setCell ⟨w.heap.size, 11, none⟩ (.slice pv nv cv)).setCell ⟨w.heap.size, 12, none⟩ (.slice pd nd cd)) (some w.heap.size) := gtrans (gtrans (gtrans (gtrans (gtrans (gtrans (gtrans (gtrans (gtrans (gtrans (gtrans (gtrans (grown_set w5 w.heap.size 0 (.int .i64 m.k)) (grown_set _ w.heap.size 1 (.int .i64 m.f))) (grown_set _ w.heap.size 2 (.int .i64 m.t))) (grown_set _ w.heap.size 3 (.int .i64 m.tm))) (grown_set _ w.heap.size 4 (.int .i64 m.ix))) (grown_set _ w.heap.size 5 (.int .i64 m.lt))) (grown_set _ w.heap.size 6 (.int .i64 m.cm))) (grown_set _ w.heap.size 7 (.int .i64 m.rd))) (grown_set _ w.heap.size 8 (.bool m.ys))) (grown_set _ w.heap.size 9 (.bool m.dn))) (grown_set _ w.heap.size 10 (.slice pe ne ce))) (grown_set _ w.heap.size 11 (.slice pv nv cv))) (grown_set _ w.heap.size 12 (.slice pd nd cd))
      obtain ⟨W9, hW9⟩ : ∃ W9, (((((((((((((w5.setCell ⟨w.heap.size, 0, none⟩ (.int .i64 m.k)).setCell ⟨w.heap.size, 1, none⟩ (.int .i64 m.f)).setCell ⟨w.heap.size, 2, none⟩ (.int .i64 m.t)).setCell ⟨w.heap.size, 3, none⟩ (.int .i64 m.tm)).setCell ⟨w.heap.size, 4, none⟩ (.int .i64 m.ix)).setCell ⟨w.heap.size, 5, none⟩ (.int .i64 m.lt)).setCell ⟨w.heap.size, 6, none⟩ (.int .i64 m.cm)).setCell ⟨w.heap.size, 7, none⟩ (.int .i64 m.rd)).setCell ⟨w.heap.size, 8, none⟩ (.bool m.ys)).setCell ⟨w.heap.size, 9, none⟩ (.bool m.dn)).setCell ⟨w.heap.size, 10, none⟩ (.slice pe ne ce)).setCell ⟨w.heap.size, 11, none⟩ (.slice pv nv cv)).setCell ⟨w.heap.size, 12, none⟩ (.slice pd nd cd)) = W9 := ⟨_, rfl⟩
      rw [hW9] at hs9 hG9 ⊢
      clear hW9
      have n0_ := cell_of_row W9 w.heap.size 0 _ 26 (0, 0) hs9
      have n1_ := cell_of_row W9 w.heap.size 1 _ 26 (0, 0) hs9
      have n2_ := cell_of_row W9 w.heap.size 2 _ 26 (0, 0) hs9
      have n3_ := cell_of_row W9 w.heap.size 3 _ 26 (0, 0) hs9
      have n4_ := cell_of_row W9 w.heap.size 4 _ 26 (0, 0) hs9
      have n5_ := cell_of_row W9 w.heap.size 5 _ 26 (0, 0) hs9
      have n6_ := cell_of_row W9 w.heap.size 6 _ 26 (0, 0) hs9
      have n7_ := cell_of_row W9 w.heap.size 7 _ 26 (0, 0) hs9
      have n8_ := cell_of_row W9 w.heap.size 8 _ 26 (0, 0) hs9
      have n9_ := cell_of_row W9 w.heap.size 9 _ 26 (0, 0) hs9
      have n10_ := cell_of_row W9 w.heap.size 10 _ 26 (0, 0) hs9
      have n11_ := cell_of_row W9 w.heap.size 11 _ 26 (0, 0) hs9
      have n12_ := cell_of_row W9 w.heap.size 12 _ 26 (0, 0) hs9
      simp only [List.getElem?_toArray, List.getElem?_cons_succ, List.getElem?_cons_zero] at n0_ n1_ n2_ n3_ n4_ n5_ n6_ n7_ n8_ n9_ n10_ n11_ n12_
      have hz9 : w.heap.size < W9.heap.size := lt_of_cell n0_
      have hks : ∀ i u, w5.cell? ⟨b6, i, none⟩ = some u → W9.cell? ⟨b6, i, none⟩ = some u := fun i u hu => hG9.cell hu (fun e => by injection e with e; have e6 : (⟨b6, i, none⟩ : Addr).block = b6 := rfl; have := HB6.out; have := HW2.out; omega)
      have HS9 := hide (⟨hks 0 _ HK5.out.1, hks 1 _ HK5.out.2.1, hks 2 _ HK5.out.2.2.1, hks 3 _ HK5.out.2.2.2.1, hks 4 _ HK5.out.2.2.2.2.1, hks 5 _ HK5.out.2.2.2.2.2.1, hks 6 _ HK5.out.2.2.2.2.2.2.1, hks 7 _ HK5.out.2.2.2.2.2.2.2.1, hks 8 _ HK5.out.2.2.2.2.2.2.2.2.1, hks 9 _ HK5.out.2.2.2.2.2.2.2.2.2.1, hks 10 _ HK5.out.2.2.2.2.2.2.2.2.2.2.1, hks 11 _ HK5.out.2.2.2.2.2.2.2.2.2.2.2.1, hks 12 _ HK5.out.2.2.2.2.2.2.2.2.2.2.2.2⟩ : W9.cell? ⟨b6, 0, none⟩ = some (.int .i64 m.k) ∧ W9.cell? ⟨b6, 1, none⟩ = some (.int .i64 m.f) ∧ W9.cell? ⟨b6, 2, none⟩ = some (.int .i64 m.t) ∧ W9.cell? ⟨b6, 3, none⟩ = some (.int .i64 m.tm) ∧ W9.cell? ⟨b6, 4, none⟩ = some (.int .i64 m.ix) ∧ W9.cell? ⟨b6, 5, none⟩ = some (.int .i64 m.lt) ∧ W9.cell? ⟨b6, 6, none⟩ = some (.int .i64 m.cm) ∧ W9.cell? ⟨b6, 7, none⟩ = some (.int .i64 m.rd) ∧ W9.cell? ⟨b6, 8, none⟩ = some (.bool m.ys) ∧ W9.cell? ⟨b6, 9, none⟩ = some (.bool m.dn) ∧ W9.cell? ⟨b6, 10, none⟩ = some (.slice pe ne ce) ∧ W9.cell? ⟨b6, 11, none⟩ = some (.slice pv nv cv) ∧ W9.cell? ⟨b6, 12, none⟩ = some (.slice pd nd cd))
      have HG9 := hide hG9
      clear hks hs9 m0 mf0 m1 mf1 m2 mf2 m3 mf3 m4 mf4 m5 mf5 m6 mf6 m7 mf7 m8 mf8 m9 mf9 m10 mf10 m11 mf11 m12 mf12
      first
        | refine hK.out _ _ ?_ (fun hHeld => ?_)
        | (go_wp2_with fail; refine hK.out _ _ ?_ (fun hHeld => ?_))
      · (try dsimp only)
        exact HS9.out
      clear hK K
      try simp only [Act.put, List.setIfInBounds_toArray, List.set_cons_zero, List.set_cons_succ]
      refine wpAnyH_ready (rs := [5]) (by kernel_rfl) (by simp) ?_
      refine AllReadyH.cons (o := { dst := some 5, op := Op.assign (Operand.tmp 17), type := 31, pos := "net.go:66", after := _, guard := none }) rfl (fun K hK => ?_) ?_
      · go_simp
        first
          | refine hK.out _ _ ?_ (fun hHeld => ?_)
          | (go_wp2_with fail; refine hK.out _ _ ?_ (fun hHeld => ?_))
        · (try dsimp only)
          first | exact HS9.out | assumption
        clear hK K
        try simp only [Act.put, List.setIfInBounds_toArray, List.set_cons_zero, List.set_cons_succ]
        refine wpAnyH_done (by kernel_rfl) ?_ _
        go_wp2
        refine bodyPost_ret (v := .tuple #[.agg #[.int .i64 m.k, .int .i64 m.f, .int .i64 m.t, .int .i64 m.tm, .int .i64 m.ix, .int .i64 m.lt, .int .i64 m.cm, .int .i64 m.rd, .bool m.ys, .bool m.dn, .slice pe ne ce, .slice pv nv cv, .slice pd nd cd], .int .i64 (hitE x id)]) (by simp [results, Try.results24, go_sem, n0_, n1_, n2_, n3_, n4_, n5_, n6_, n7_, n8_, n9_, n10_, n11_, n12_, hz9]) rfl ⟨.slice pe ne ce, .slice pv nv cv, .slice pd nd cd, rfl, ?_, v5, ?_, ?_⟩
        · have h1 : MsO X.heap.size w5 m (.slice pe ne ce) (.slice pv nv cv) (.slice pd nd cd) := (HMB.out.below HBY.out).chg HC5.out (fun k hk => by have := HS.out k hk; have := HWX.out; omega)
          exact (h1.grownLt HG9.out HWX.out).mono (by have := HWX.out; omega)
        · exact HBG5.out.1.keepT HBG5.out.2 HG9.out (Nat.le_refl _)
        · have h1 : Chg w Y (BgS g v) := Chg.of_below (HBX.out.trans (HXY.out.mono HBX.out.size)) _
          exact (h1.trans HC5.out (fun k hk => .inl hk)).trans (Chg.of_grown HG9.out (fun k => k = w.heap.size) (fun k e => by injection e with e; exact .inl e.symm)) (fun k hk => .inr (by omega))
      exact AllReadyH.nil
    exact AllReadyH.nil
  exact AllReadyH.nil
end Go.Proofs.Ytiiollgipfggmaa
