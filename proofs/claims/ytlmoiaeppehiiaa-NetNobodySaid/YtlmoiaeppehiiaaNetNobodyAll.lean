/- A bag that no call made, in one text. -/
import Derived.Test.YtlmoiaeppehiiaaNAwake
import Derived.Deep.RegionHeld3
import Derived.Test.YtlmoiaeppehiiaaNCode
import Derived.Test.YtlmoiaeppehiiaaRows
import Derived.WalkKit
import Derived.ProofKit
import Derived.OpenShut
import Derived.ShutString
import Derived.ChangeOld
import Derived.Below
import Derived.SizedLaws
/- A bag that no call made. -/
namespace Go.Proofs.Ytlmoiaeppehiiaa
set_option linter.unusedVariables false
set_option linter.unusedSimpArgs false
open Go.RowKit

/-- None, or one that New did not make. -/
def NobB (w : World) (v : Value) : Prop := v = .pointer none ∨ ∃ g, v = .pointer (some ⟨g, 0, none⟩) ∧ w.cell? ⟨g, 0, none⟩ = some (.bool false)
theorem NobB.below {w w' : World} {v : Value} (h : NobB w v) (hb : Below w.heap.size w w') : NobB w' v := by
  rcases h with rfl | ⟨g, rfl, hc⟩
  · exact .inl rfl
  · exact .inr ⟨g, rfl, (hb.cell (lt_of_cell hc)).trans hc⟩
theorem NobB.pt {w : World} {v : Value} (h : NobB w v) : ∃ a, v = .pointer a := by
  rcases h with rfl | ⟨g, rfl, hc⟩
  · exact ⟨_, rfl⟩
  · exact ⟨_, rfl⟩
set_option maxRecDepth 200000 in
set_option maxHeartbeats 4000000 in
theorem ok_nob {w : World} {v : Value} (h : NobB w v) : Calls Try.prog 62 #[v] w fun e w' => e = .returned (.bool false) ∧ w = w' := by
  rcases h with rfl | ⟨g, rfl, hc⟩
  · go_enter Try.func62, Try.ntmps62
    go_wp2
    go_ret
    exact ⟨rfl, rfl⟩
  · go_enter Try.func62, Try.ntmps62
    go_wp2
    go_ret
    exact ⟨rfl, rfl⟩
set_option maxRecDepth 200000 in
set_option maxHeartbeats 4000000 in
theorem find_nob {w : World} {v : Value} (h : NobB w v) (id : Int) : Calls Try.prog 57 #[v, .int .i64 id] w fun e w' => e = .returned (.tuple #[.int .i64 0, .int .i64 6]) ∧ Below w.heap.size w w' := by
  have hb := (Below.refl w.heap.size w).alloc (Nat.le_refl _) (.cells #[.int .i64 id] 3)
  have HO := hide (ok_nob (h.below hb))
  have HB := hide hb
  obtain ⟨a, rfl⟩ := h.pt
  clear h hb
  go_enter Try.func57, Try.ntmps57
  go_wp2_with fail
  refine HO.out.mono ?_
  rintro e w' ⟨rfl, rfl⟩
  go_wp2
  go_ret2
  exact ⟨rfl, HB.out⟩
set_option maxRecDepth 200000 in
set_option maxHeartbeats 4000000 in
theorem lose_nob {w : World} {v : Value} (h : NobB w v) (id : Int) : Calls Try.prog 26 #[v, .int .i64 id] w fun e w' => e = .returned (.int .i64 6) ∧ Below w.heap.size w w' := by
  have HF := hide (find_nob h id)
  obtain ⟨a, rfl⟩ := h.pt
  clear h
  go_enter Try.func26, Try.ntmps26
  go_wp2_with fail
  refine HF.out.mono ?_
  rintro e w2 ⟨rfl, hb2⟩
  have HB2 := hide hb2
  clear hb2
  go_wp2
  go_ret
  exact ⟨rfl, HB2.out⟩
set_option maxRecDepth 200000 in
set_option maxHeartbeats 4000000 in
theorem double_nob {w : World} {v : Value} (h : NobB w v) (id : Int) : Calls Try.prog 28 #[v, .int .i64 id] w fun e w' => e = .returned (.int .i64 6) ∧ Below w.heap.size w w' := by
  have HF := hide (find_nob h id)
  obtain ⟨a, rfl⟩ := h.pt
  clear h
  go_enter Try.func28, Try.ntmps28
  go_wp2_with fail
  refine HF.out.mono ?_
  rintro e w2 ⟨rfl, hb2⟩
  have HB2 := hide hb2
  clear hb2
  go_wp2
  go_ret
  exact ⟨rfl, HB2.out⟩
set_option maxRecDepth 200000 in
set_option maxHeartbeats 4000000 in
theorem list_nob {w : World} {v : Value} (h : NobB w v) : Calls Try.prog 33 #[v] w fun e w' => e = .returned (.slice none 0 0) ∧ w = w' := by
  have HO := hide (ok_nob h)
  obtain ⟨a, rfl⟩ := h.pt
  clear h
  go_enter Try.func33, Try.ntmps33
  go_wp2_with fail
  refine HO.out.mono ?_
  rintro e w' ⟨rfl, rfl⟩
  go_wp2
  go_ret
  exact ⟨rfl, rfl⟩
set_option maxRecDepth 200000 in
set_option maxHeartbeats 4000000 in
theorem send_nob {w : World} {v : Value} (h : NobB w v) (p : Option Addr) (n c : Nat) : Calls Try.prog 30 #[v, .slice p n c] w fun e w' => e = .returned (.int .i64 0) ∧ w = w' := by
  have HO := hide (ok_nob h)
  obtain ⟨a, rfl⟩ := h.pt
  clear h
  go_enter Try.func30, Try.ntmps30
  go_wp2_with fail
  refine HO.out.mono ?_
  rintro e w' ⟨rfl, rfl⟩
  go_wp2
  go_ret
  exact ⟨rfl, rfl⟩
set_option maxRecDepth 200000 in
set_option maxHeartbeats 4000000 in
theorem peek_nob {w : World} {v : Value} (h : NobB w v) (id : Int) : Calls Try.prog 22 #[v, .int .i64 id] w (PeekPost w (ms0, 6)) := by
  obtain ⟨X, hX⟩ : ∃ X, w.alloc (.cells #[.int .i64 0, .int .i64 0, .int .i64 0, .int .i64 0, .int .i64 0, .int .i64 0, .int .i64 0, .int .i64 0, .bool false, .bool false, .slice none 0 0, .slice none 0 0, .slice none 0 0] 26) = X := ⟨_, rfl⟩
  have hrX : X.heap[w.heap.size]? = some (.cells #[.int .i64 0, .int .i64 0, .int .i64 0, .int .i64 0, .int .i64 0, .int .i64 0, .int .i64 0, .int .i64 0, .bool false, .bool false, .slice none 0 0, .slice none 0 0, .slice none 0 0] 26 (0, 0)) := by rw [← hX]; exact heap_alloc_new w _
  have hbX : Below w.heap.size w X := by rw [← hX]; exact (Below.refl _ _).alloc (Nat.le_refl _) _
  have hwX : w.heap.size < X.heap.size := (Array.getElem?_eq_some_iff.1 hrX).1
  have HF := hide (find_nob (h.below hbX) id)
  have HRX := hide hrX
  have HBX := hide hbX
  have HWX := hide hwX
  have HX := hide hX
  obtain ⟨a, rfl⟩ := h.pt
  clear h hrX hbX hwX hX
  go_enter Try.func22, Try.ntmps22
  go_wp2_with fail
  rw [HX.out]
  refine HF.out.mono ?_
  rintro e w2 ⟨rfl, hb2⟩
  have hR2 := (hb2.block _ HWX.out).trans HRX.out
  have HB2 := hide (HBX.out.trans (hb2.mono HBX.out.size))
  have m0 := cell_of_row w2 w.heap.size 0 _ 26 (0, 0) hR2
  have mf0 := frozen_of_row w2 w.heap.size 0 _ 26 hR2
  have m1 := cell_of_row w2 w.heap.size 1 _ 26 (0, 0) hR2
  have mf1 := frozen_of_row w2 w.heap.size 1 _ 26 hR2
  have m2 := cell_of_row w2 w.heap.size 2 _ 26 (0, 0) hR2
  have mf2 := frozen_of_row w2 w.heap.size 2 _ 26 hR2
  have m3 := cell_of_row w2 w.heap.size 3 _ 26 (0, 0) hR2
  have mf3 := frozen_of_row w2 w.heap.size 3 _ 26 hR2
  have m4 := cell_of_row w2 w.heap.size 4 _ 26 (0, 0) hR2
  have mf4 := frozen_of_row w2 w.heap.size 4 _ 26 hR2
  have m5 := cell_of_row w2 w.heap.size 5 _ 26 (0, 0) hR2
  have mf5 := frozen_of_row w2 w.heap.size 5 _ 26 hR2
  have m6 := cell_of_row w2 w.heap.size 6 _ 26 (0, 0) hR2
  have mf6 := frozen_of_row w2 w.heap.size 6 _ 26 hR2
  have m7 := cell_of_row w2 w.heap.size 7 _ 26 (0, 0) hR2
  have mf7 := frozen_of_row w2 w.heap.size 7 _ 26 hR2
  have m8 := cell_of_row w2 w.heap.size 8 _ 26 (0, 0) hR2
  have mf8 := frozen_of_row w2 w.heap.size 8 _ 26 hR2
  have m9 := cell_of_row w2 w.heap.size 9 _ 26 (0, 0) hR2
  have mf9 := frozen_of_row w2 w.heap.size 9 _ 26 hR2
  have m10 := cell_of_row w2 w.heap.size 10 _ 26 (0, 0) hR2
  have mf10 := frozen_of_row w2 w.heap.size 10 _ 26 hR2
  have m11 := cell_of_row w2 w.heap.size 11 _ 26 (0, 0) hR2
  have mf11 := frozen_of_row w2 w.heap.size 11 _ 26 hR2
  have m12 := cell_of_row w2 w.heap.size 12 _ 26 (0, 0) hR2
  have mf12 := frozen_of_row w2 w.heap.size 12 _ 26 hR2
  simp only [List.getElem?_toArray, List.getElem?_cons_succ, List.getElem?_cons_zero] at m0 m1 m2 m3 m4 m5 m6 m7 m8 m9 m10 m11 m12
  have RVH := hide hR2
  clear hR2 hb2
  go_wp2
  have hs9 := set13 w2 w.heap.size 26 _ _ _ _ _ _ _ _ _ _ _ _ _ (.int .i64 0) (.int .i64 0) (.int .i64 0) (.int .i64 0) (.int .i64 0) (.int .i64 0) (.int .i64 0) (.int .i64 0) (.bool false) (.bool false) (.slice none 0 0) (.slice none 0 0) (.slice none 0 0) RVH.out
  have hG9 : w2.grownBy (((((((((((((w2.setCell ⟨w.heap.size, 0, none⟩ (.int .i64 0)).setCell ⟨w.heap.size, 1, none⟩ (.int .i64 0)).setCell ⟨w.heap.size, 2, none⟩ (.int .i64 0)).setCell ⟨w.heap.size, 3, none⟩ (.int .i64 0)).setCell ⟨w.heap.size, 4, none⟩ (.int .i64 0)).setCell ⟨w.heap.size, 5, none⟩ (.int .i64 0)).setCell ⟨w.heap.size, 6, none⟩ (.int .i64 0)).setCell ⟨w.heap.size, 7, none⟩ (.int .i64 0)).setCell ⟨w.heap.size, 8, none⟩ (.bool false)).setCell ⟨w.heap.size, 9, none⟩ (.bool false)).setCell ⟨w.heap.size, 10, none⟩ (.slice none 0 0)).setCell ⟨w.heap.size, 11, none⟩ (.slice none 0 0)).setCell ⟨w.heap.size, 12, none⟩ (.slice none 0 0)) (some w.heap.size) := gtrans (gtrans (gtrans (gtrans (gtrans (gtrans (gtrans (gtrans (gtrans (gtrans (gtrans (gtrans (grown_set w2 w.heap.size 0 (.int .i64 0)) (grown_set _ w.heap.size 1 (.int .i64 0))) (grown_set _ w.heap.size 2 (.int .i64 0))) (grown_set _ w.heap.size 3 (.int .i64 0))) (grown_set _ w.heap.size 4 (.int .i64 0))) (grown_set _ w.heap.size 5 (.int .i64 0))) (grown_set _ w.heap.size 6 (.int .i64 0))) (grown_set _ w.heap.size 7 (.int .i64 0))) (grown_set _ w.heap.size 8 (.bool false))) (grown_set _ w.heap.size 9 (.bool false))) (grown_set _ w.heap.size 10 (.slice none 0 0))) (grown_set _ w.heap.size 11 (.slice none 0 0))) (grown_set _ w.heap.size 12 (.slice none 0 0))
  obtain ⟨W9, hW9⟩ : ∃ W9, (((((((((((((w2.setCell ⟨w.heap.size, 0, none⟩ (.int .i64 0)).setCell ⟨w.heap.size, 1, none⟩ (.int .i64 0)).setCell ⟨w.heap.size, 2, none⟩ (.int .i64 0)).setCell ⟨w.heap.size, 3, none⟩ (.int .i64 0)).setCell ⟨w.heap.size, 4, none⟩ (.int .i64 0)).setCell ⟨w.heap.size, 5, none⟩ (.int .i64 0)).setCell ⟨w.heap.size, 6, none⟩ (.int .i64 0)).setCell ⟨w.heap.size, 7, none⟩ (.int .i64 0)).setCell ⟨w.heap.size, 8, none⟩ (.bool false)).setCell ⟨w.heap.size, 9, none⟩ (.bool false)).setCell ⟨w.heap.size, 10, none⟩ (.slice none 0 0)).setCell ⟨w.heap.size, 11, none⟩ (.slice none 0 0)).setCell ⟨w.heap.size, 12, none⟩ (.slice none 0 0)) = W9 := ⟨_, rfl⟩
  rw [hW9] at hs9 hG9 ⊢
  clear hW9
  have n0_ := cell_of_row W9 w.heap.size 0 _ 26 (0, 0) hs9
  have n1_ := cell_of_row W9 w.heap.size 1 _ 26 (0, 0) hs9
  have n2_ := cell_of_row W9 w.heap.size 2 _ 26 (0, 0) hs9
  have n3_ := cell_of_row W9 w.heap.size 3 _ 26 (0, 0) hs9
  have n4_ := cell_of_row W9 w.heap.size 4 _ 26 (0, 0) hs9
  have n5_ := cell_of_row W9 w.heap.size 5 _ 26 (0, 0) hs9
  have n6_ := cell_of_row W9 w.heap.size 6 _ 26 (0, 0) hs9
  have n7_ := cell_of_row W9 w.heap.size 7 _ 26 (0, 0) hs9
  have n8_ := cell_of_row W9 w.heap.size 8 _ 26 (0, 0) hs9
  have n9_ := cell_of_row W9 w.heap.size 9 _ 26 (0, 0) hs9
  have n10_ := cell_of_row W9 w.heap.size 10 _ 26 (0, 0) hs9
  have n11_ := cell_of_row W9 w.heap.size 11 _ 26 (0, 0) hs9
  have n12_ := cell_of_row W9 w.heap.size 12 _ 26 (0, 0) hs9
  simp only [List.getElem?_toArray, List.getElem?_cons_succ, List.getElem?_cons_zero] at n0_ n1_ n2_ n3_ n4_ n5_ n6_ n7_ n8_ n9_ n10_ n11_ n12_
  have hz9 : w.heap.size < W9.heap.size := lt_of_cell n0_
  refine bodyPost_ret (v := .tuple #[.agg #[.int .i64 0, .int .i64 0, .int .i64 0, .int .i64 0, .int .i64 0, .int .i64 0, .int .i64 0, .int .i64 0, .bool false, .bool false, .slice none 0 0, .slice none 0 0, .slice none 0 0], .int .i64 6]) (by simp [results, Try.results22, go_sem, n0_, n1_, n2_, n3_, n4_, n5_, n6_, n7_, n8_, n9_, n10_, n11_, n12_, hz9]) rfl ⟨.slice none 0 0, .slice none 0 0, .slice none 0 0, rfl, MsO.zero _ _, HB2.out.grown hG9 HB2.out.size fun k hk => by injection hk with hk; omega⟩
end Go.Proofs.Ytlmoiaeppehiiaa
/- Take of a bag that no call made. -/
namespace Go.Proofs.Ytlmoiaeppehiiaa
set_option linter.unusedVariables false
set_option linter.unusedSimpArgs false
open Go.RowKit

set_option maxRecDepth 200000 in
set_option maxHeartbeats 4000000 in
theorem take_nob {w : World} {v : Value} (h : NobB w v) (id : Int) : Calls Try.prog 24 #[v, .int .i64 id] w (PeekPost w (ms0, 6)) := by
  obtain ⟨X, hX⟩ : ∃ X, w.alloc (.cells #[.int .i64 0, .int .i64 0, .int .i64 0, .int .i64 0, .int .i64 0, .int .i64 0, .int .i64 0, .int .i64 0, .bool false, .bool false, .slice none 0 0, .slice none 0 0, .slice none 0 0] 26) = X := ⟨_, rfl⟩
  have hrX : X.heap[w.heap.size]? = some (.cells #[.int .i64 0, .int .i64 0, .int .i64 0, .int .i64 0, .int .i64 0, .int .i64 0, .int .i64 0, .int .i64 0, .bool false, .bool false, .slice none 0 0, .slice none 0 0, .slice none 0 0] 26 (0, 0)) := by rw [← hX]; exact heap_alloc_new w _
  have hbX : Below w.heap.size w X := by rw [← hX]; exact (Below.refl _ _).alloc (Nat.le_refl _) _
  have hwX : w.heap.size < X.heap.size := (Array.getElem?_eq_some_iff.1 hrX).1
  have h1 := h.below hbX
  have HP := hide (peek_nob h1 id)
  have HH := hide h1
  have HRX := hide hrX
  have HBX := hide hbX
  have HWX := hide hwX
  have HX := hide hX
  unfold PeekPost
  obtain ⟨a, rfl⟩ := h.pt
  unfold PeekPost at HP
  obtain ⟨q, hq⟩ : ∃ q, (ms0, (6 : Int)) = q := ⟨_, rfl⟩
  have hq2 : q.2 = 6 := by rw [← hq]
  rw [hq] at HP ⊢
  obtain ⟨m, E⟩ := q
  dsimp only at HP hq2 ⊢
  subst hq2
  clear h h1 hrX hwX hX hq
  go_enter Try.func24, Try.ntmps24
  go_wp2_with fail
  rw [HX.out]
  refine HP.out.mono ?_
  rintro e w2 ⟨ve, vv, vd, rfl, hmo, hb2⟩
  obtain ⟨pe, ne, ce, rfl⟩ := hmo.es.ens.sl
  obtain ⟨pv, nv, cv, rfl⟩ := hmo.vs.ns.sl
  obtain ⟨pd, nd, cd, rfl⟩ := hmo.d.by_.sl
  unfold msA
  dsimp only
  have hbY := (Below.refl w2.heap.size w2).alloc (Nat.le_refl _) (.cells #[.int .i64 m.k, .int .i64 m.f, .int .i64 m.t, .int .i64 m.tm, .int .i64 m.ix, .int .i64 m.lt, .int .i64 m.cm, .int .i64 m.rd, .bool m.ys, .bool m.dn, .slice pe ne ce, .slice pv nv cv, .slice pd nd cd] 26)
  have hrY := heap_alloc_new w2 (.cells #[.int .i64 m.k, .int .i64 m.f, .int .i64 m.t, .int .i64 m.tm, .int .i64 m.ix, .int .i64 m.lt, .int .i64 m.cm, .int .i64 m.rd, .bool m.ys, .bool m.dn, .slice pe ne ce, .slice pv nv cv, .slice pd nd cd] 26)
  obtain ⟨Y, hY⟩ : ∃ Y, w2.alloc (.cells #[.int .i64 m.k, .int .i64 m.f, .int .i64 m.t, .int .i64 m.tm, .int .i64 m.ix, .int .i64 m.lt, .int .i64 m.cm, .int .i64 m.rd, .bool m.ys, .bool m.dn, .slice pe ne ce, .slice pv nv cv, .slice pd nd cd] 26) = Y := ⟨_, rfl⟩
  rw [hY] at hbY hrY
  have hX6 := Box13.of_row hrY
  have hXY : Below X.heap.size X Y := hb2.trans (hbY.mono hb2.size)
  have HXY := hide hXY
  have HW2 := hide (show w.heap.size < w2.heap.size by have := HWX.out; have := hb2.size; omega)
  have HMO := hide ((hmo.below hbY).mono (B' := w.heap.size) (by have := HWX.out; omega))
  have HMB := hide hmo
  have HBY := hide hbY
  have HLO := hide (fun V (hV : Below Y.heap.size Y V) => lose_nob ((HH.out.below hXY).below hV) id)
  have HRY := hide ((hXY.block _ HWX.out).trans HRX.out)
  have HX6 := hide hX6
  obtain ⟨b6, hb6⟩ : ∃ b, w2.heap.size = b := ⟨_, rfl⟩
  rw [hb6] at hX6 HX6
  have HB6 := hide hb6
  obtain ⟨y0, y1, y2, y3, y4, y5, y6, y7, y8, y9, y10, y11, y12⟩ := hX6
  clear hmo hb2 hbY hrY hXY HP hbX
  go_wp2_with fail
  refine wp_region_held_drew (S := fun V => V.cell? ⟨b6, 0, none⟩ = some (.int .i64 m.k) ∧ V.cell? ⟨b6, 1, none⟩ = some (.int .i64 m.f) ∧ V.cell? ⟨b6, 2, none⟩ = some (.int .i64 m.t) ∧ V.cell? ⟨b6, 3, none⟩ = some (.int .i64 m.tm) ∧ V.cell? ⟨b6, 4, none⟩ = some (.int .i64 m.ix) ∧ V.cell? ⟨b6, 5, none⟩ = some (.int .i64 m.lt) ∧ V.cell? ⟨b6, 6, none⟩ = some (.int .i64 m.cm) ∧ V.cell? ⟨b6, 7, none⟩ = some (.int .i64 m.rd) ∧ V.cell? ⟨b6, 8, none⟩ = some (.bool m.ys) ∧ V.cell? ⟨b6, 9, none⟩ = some (.bool m.dn) ∧ V.cell? ⟨b6, 10, none⟩ = some (.slice pe ne ce) ∧ V.cell? ⟨b6, 11, none⟩ = some (.slice pv nv cv) ∧ V.cell? ⟨b6, 12, none⟩ = some (.slice pd nd cd)) (by kernel_rfl) ?_ (fun hHeld => ?_)
  · (try dsimp only)
    exact ⟨y0, y1, y2, y3, y4, y5, y6, y7, y8, y9, y10, y11, y12⟩
  refine wpAnyH_take (i := 0) (oi := { dst := some 14, op := Op.load 26 (Operand.tmp 6), type := 26, pos := "net.go:66", after := #[], guard := none }) (v := ?_) rfl (by kernel_rfl) (by kernel_rfl) (by kernel_rfl) (fun _ _ _ h => h) (Or.inl ⟨by rfl, ?_⟩) (by assumption) ?_
  rotate_left
  · intro w hSw
    (try dsimp only at hSw)
    go_simp
    try with_reducible rfl
  try simp only [Act.put, List.setIfInBounds_toArray, List.set_cons_zero, List.set_cons_succ]
  refine wpAnyH_take (i := 1) (oi := { dst := some 15, op := Op.move (Operand.tmp 0), type := 46, pos := "net.go:66", after := #[], guard := none }) (v := ?_) rfl (by kernel_rfl) (by kernel_rfl) (by kernel_rfl) (fun _ _ _ h => h) (Or.inl ⟨by rfl, ?_⟩) (by assumption) ?_
  rotate_left
  · intro w hSw
    (try dsimp only at hSw)
    go_simp
    try with_reducible rfl
  try simp only [Act.put, List.setIfInBounds_toArray, List.set_cons_zero, List.set_cons_succ]
  refine wpAnyH_take (i := 2) (oi := { dst := some 16, op := Op.move (Operand.tmp 1), type := 3, pos := "net.go:66", after := #[], guard := none }) (v := ?_) rfl (by kernel_rfl) (by kernel_rfl) (by kernel_rfl) (fun _ _ _ h => h) (Or.inl ⟨by rfl, ?_⟩) (by assumption) ?_
  rotate_left
  · intro w hSw
    (try dsimp only at hSw)
    go_simp
    try with_reducible rfl
  try simp only [Act.put, List.setIfInBounds_toArray, List.set_cons_zero, List.set_cons_succ]
  refine wpAnyH_ready (rs := [3]) (by kernel_rfl) (by simp) ?_
  refine AllReadyH.cons (o := { dst := some 17, op := Op.call { callee := Callee.value (Operand.func 26), args := #[Operand.tmp 15, Operand.tmp 16], argTypes := #[46, 3] }, type := 31, pos := "net.go:66", after := _, guard := none }) rfl (fun K hK => ?_) ?_
  · go_simp
    go_at_call 26
    refine (HLO.out _ (by first | exact Below.refl _ _ | exact bel_drewN (Below.refl _ _) _ | exact bel_drewN (Below.refl _ _) 1)).mono ?_
    rintro e w5 ⟨rfl, hb5x⟩
    have hb5 : Below Y.heap.size Y w5 := ⟨hb5x.os, hb5x.tape, hb5x.output, hb5x.size, hb5x.block⟩
    have HB5 := hide hb5
    have hR5 := (hb5.block w.heap.size (by have := HXY.out.size; have := HWX.out; omega)).trans HRY.out
    have hkk : ∀ i u, Y.cell? ⟨b6, i, none⟩ = some u → w5.cell? ⟨b6, i, none⟩ = some u := (fun i u hu => (hb5.cell (lt_of_cell hu)).trans hu)
    have KEEP5 := And.intro (hkk 0 _ y0) (And.intro (hkk 1 _ y1) (And.intro (hkk 2 _ y2) (And.intro (hkk 3 _ y3) (And.intro (hkk 4 _ y4) (And.intro (hkk 5 _ y5) (And.intro (hkk 6 _ y6) (And.intro (hkk 7 _ y7) (And.intro (hkk 8 _ y8) (And.intro (hkk 9 _ y9) (And.intro (hkk 10 _ y10) (And.intro (hkk 11 _ y11) (hkk 12 _ y12))))))))))))
    have HK5 := hide KEEP5
    have m0 := cell_of_row w5 w.heap.size 0 _ 26 (0, 0) hR5
    have mf0 := frozen_of_row w5 w.heap.size 0 _ 26 hR5
    have m1 := cell_of_row w5 w.heap.size 1 _ 26 (0, 0) hR5
    have mf1 := frozen_of_row w5 w.heap.size 1 _ 26 hR5
    have m2 := cell_of_row w5 w.heap.size 2 _ 26 (0, 0) hR5
    have mf2 := frozen_of_row w5 w.heap.size 2 _ 26 hR5
    have m3 := cell_of_row w5 w.heap.size 3 _ 26 (0, 0) hR5
    have mf3 := frozen_of_row w5 w.heap.size 3 _ 26 hR5
    have m4 := cell_of_row w5 w.heap.size 4 _ 26 (0, 0) hR5
    have mf4 := frozen_of_row w5 w.heap.size 4 _ 26 hR5
    have m5 := cell_of_row w5 w.heap.size 5 _ 26 (0, 0) hR5
    have mf5 := frozen_of_row w5 w.heap.size 5 _ 26 hR5
    have m6 := cell_of_row w5 w.heap.size 6 _ 26 (0, 0) hR5
    have mf6 := frozen_of_row w5 w.heap.size 6 _ 26 hR5
    have m7 := cell_of_row w5 w.heap.size 7 _ 26 (0, 0) hR5
    have mf7 := frozen_of_row w5 w.heap.size 7 _ 26 hR5
    have m8 := cell_of_row w5 w.heap.size 8 _ 26 (0, 0) hR5
    have mf8 := frozen_of_row w5 w.heap.size 8 _ 26 hR5
    have m9 := cell_of_row w5 w.heap.size 9 _ 26 (0, 0) hR5
    have mf9 := frozen_of_row w5 w.heap.size 9 _ 26 hR5
    have m10 := cell_of_row w5 w.heap.size 10 _ 26 (0, 0) hR5
    have mf10 := frozen_of_row w5 w.heap.size 10 _ 26 hR5
    have m11 := cell_of_row w5 w.heap.size 11 _ 26 (0, 0) hR5
    have mf11 := frozen_of_row w5 w.heap.size 11 _ 26 hR5
    have m12 := cell_of_row w5 w.heap.size 12 _ 26 (0, 0) hR5
    have mf12 := frozen_of_row w5 w.heap.size 12 _ 26 hR5
    simp only [List.getElem?_toArray, List.getElem?_cons_succ, List.getElem?_cons_zero] at m0 m1 m2 m3 m4 m5 m6 m7 m8 m9 m10 m11 m12
    have RVH := hide hR5
    clear hb5x hb5 hR5 hkk KEEP5 y0 y1 y2 y3 y4 y5 y6 y7 y8 y9 y10 y11 y12
    first
      | refine hK.out _ _ ?_ (fun hHeld => ?_)
      | (go_wp2_with fail; refine hK.out _ _ ?_ (fun hHeld => ?_))
    · (try dsimp only)
      exact HK5.out
    clear hK K
    try simp only [Act.put, List.setIfInBounds_toArray, List.set_cons_zero, List.set_cons_succ]
    refine wpAnyH_ready (rs := [4]) (by kernel_rfl) (by simp) ?_
    refine AllReadyH.cons (o := { dst := none, op := Op.store 26 (Operand.tmp 4) (Operand.tmp 14), type := 0, pos := "net.go:66", after := _, guard := none }) rfl (fun K hK => ?_) ?_
    · go_simp
      have hs9 := set13 w5 w.heap.size 26 _ _ _ _ _ _ _ _ _ _ _ _ _ (.int .i64 m.k) (.int .i64 m.f) (.int .i64 m.t) (.int .i64 m.tm) (.int .i64 m.ix) (.int .i64 m.lt) (.int .i64 m.cm) (.int .i64 m.rd) (.bool m.ys) (.bool m.dn) (.slice pe ne ce) (.slice pv nv cv) (.slice pd nd cd) RVH.out
      have hG9 : w5.grownBy (((((((((((((w5.setCell ⟨w.heap.size, 0, none⟩ (.int .i64 m.k)).setCell ⟨w.heap.size, 1, none⟩ (.int .i64 m.f)).setCell ⟨w.heap.size, 2, none⟩ (.int .i64 m.t)).setCell ⟨w.heap.size, 3, none⟩ (.int .i64 m.tm)).setCell ⟨w.heap.size, 4, none⟩ (.int .i64 m.ix)).setCell ⟨w.heap.size, 5, none⟩ (.int .i64 m.lt)).setCell ⟨w.heap.size, 6, none⟩ (.int .i64 m.cm)).setCell ⟨w.heap.size, 7, none⟩ (.int .i64 m.rd)).setCell ⟨w.heap.size, 8, none⟩ (.bool m.ys)).setCell ⟨w.heap.size, 9, none⟩ (.bool m.dn)).setCell ⟨w.heap.size, 10, none⟩ (.slice pe ne ce)).setCell ⟨w.heap.size, 11, none⟩ (.slice pv nv cv)).setCell ⟨w.heap.size, 12, none⟩ (.slice pd nd cd)) (some w.heap.size) := gtrans (gtrans (gtrans (gtrans (gtrans (gtrans (gtrans (gtrans (gtrans (gtrans (gtrans (gtrans (grown_set w5 w.heap.size 0 (.int .i64 m.k)) (grown_set _ w.heap.size 1 (.int .i64 m.f))) (grown_set _ w.heap.size 2 (.int .i64 m.t))) (grown_set _ w.heap.size 3 (.int .i64 m.tm))) (grown_set _ w.heap.size 4 (.int .i64 m.ix))) (grown_set _ w.heap.size 5 (.int .i64 m.lt))) (grown_set _ w.heap.size 6 (.int .i64 m.cm))) (grown_set _ w.heap.size 7 (.int .i64 m.rd))) (grown_set _ w.heap.size 8 (.bool m.ys))) (grown_set _ w.heap.size 9 (.bool m.dn))) (grown_set _ w.heap.size 10 (.slice pe ne ce))) (grown_set _ w.heap.size 11 (.slice pv nv cv))) (grown_set _ w.heap.size 12 (.slice pd nd cd))
      obtain ⟨W9, hW9⟩ : ∃ W9, (((((((((((((w5.setCell ⟨w.heap.size, 0, none⟩ (.int .i64 m.k)).setCell ⟨w.heap.size, 1, none⟩ (.int .i64 m.f)).setCell ⟨w.heap.size, 2, none⟩ (.int .i64 m.t)).setCell ⟨w.heap.size, 3, none⟩ (.int .i64 m.tm)).setCell ⟨w.heap.size, 4, none⟩ (.int .i64 m.ix)).setCell ⟨w.heap.size, 5, none⟩ (.int .i64 m.lt)).setCell ⟨w.heap.size, 6, none⟩ (.int .i64 m.cm)).setCell ⟨w.heap.size, 7, none⟩ (.int .i64 m.rd)).setCell ⟨w.heap.size, 8, none⟩ (.bool m.ys)).setCell ⟨w.heap.size, 9, none⟩ (.bool m.dn)).setCell ⟨w.heap.size, 10, none⟩ (.slice pe ne ce)).setCell ⟨w.heap.size, 11, none⟩ (.slice pv nv cv)).setCell ⟨w.heap.size, 12, none⟩ (.slice pd nd cd)) = W9 := ⟨_, rfl⟩
      rw [hW9] at hs9 hG9 ⊢
      clear hW9
      have n0_ := cell_of_row W9 w.heap.size 0 _ 26 (0, 0) hs9
      have n1_ := cell_of_row W9 w.heap.size 1 _ 26 (0, 0) hs9
      have n2_ := cell_of_row W9 w.heap.size 2 _ 26 (0, 0) hs9
      have n3_ := cell_of_row W9 w.heap.size 3 _ 26 (0, 0) hs9
      have n4_ := cell_of_row W9 w.heap.size 4 _ 26 (0, 0) hs9
      have n5_ := cell_of_row W9 w.heap.size 5 _ 26 (0, 0) hs9
      have n6_ := cell_of_row W9 w.heap.size 6 _ 26 (0, 0) hs9
      have n7_ := cell_of_row W9 w.heap.size 7 _ 26 (0, 0) hs9
      have n8_ := cell_of_row W9 w.heap.size 8 _ 26 (0, 0) hs9
      have n9_ := cell_of_row W9 w.heap.size 9 _ 26 (0, 0) hs9
      have n10_ := cell_of_row W9 w.heap.size 10 _ 26 (0, 0) hs9
      have n11_ := cell_of_row W9 w.heap.size 11 _ 26 (0, 0) hs9
      have n12_ := cell_of_row W9 w.heap.size 12 _ 26 (0, 0) hs9
      simp only [List.getElem?_toArray, List.getElem?_cons_succ, List.getElem?_cons_zero] at n0_ n1_ n2_ n3_ n4_ n5_ n6_ n7_ n8_ n9_ n10_ n11_ n12_
      have hz9 : w.heap.size < W9.heap.size := lt_of_cell n0_
      have hks : ∀ i u, w5.cell? ⟨b6, i, none⟩ = some u → W9.cell? ⟨b6, i, none⟩ = some u := fun i u hu => hG9.cell hu (fun e => by injection e with e; have e6 : (⟨b6, i, none⟩ : Addr).block = b6 := rfl; have := HB6.out; have := HW2.out; omega)
      have HS9 := hide (⟨hks 0 _ HK5.out.1, hks 1 _ HK5.out.2.1, hks 2 _ HK5.out.2.2.1, hks 3 _ HK5.out.2.2.2.1, hks 4 _ HK5.out.2.2.2.2.1, hks 5 _ HK5.out.2.2.2.2.2.1, hks 6 _ HK5.out.2.2.2.2.2.2.1, hks 7 _ HK5.out.2.2.2.2.2.2.2.1, hks 8 _ HK5.out.2.2.2.2.2.2.2.2.1, hks 9 _ HK5.out.2.2.2.2.2.2.2.2.2.1, hks 10 _ HK5.out.2.2.2.2.2.2.2.2.2.2.1, hks 11 _ HK5.out.2.2.2.2.2.2.2.2.2.2.2.1, hks 12 _ HK5.out.2.2.2.2.2.2.2.2.2.2.2.2⟩ : W9.cell? ⟨b6, 0, none⟩ = some (.int .i64 m.k) ∧ W9.cell? ⟨b6, 1, none⟩ = some (.int .i64 m.f) ∧ W9.cell? ⟨b6, 2, none⟩ = some (.int .i64 m.t) ∧ W9.cell? ⟨b6, 3, none⟩ = some (.int .i64 m.tm) ∧ W9.cell? ⟨b6, 4, none⟩ = some (.int .i64 m.ix) ∧ W9.cell? ⟨b6, 5, none⟩ = some (.int .i64 m.lt) ∧ W9.cell? ⟨b6, 6, none⟩ = some (.int .i64 m.cm) ∧ W9.cell? ⟨b6, 7, none⟩ = some (.int .i64 m.rd) ∧ W9.cell? ⟨b6, 8, none⟩ = some (.bool m.ys) ∧ W9.cell? ⟨b6, 9, none⟩ = some (.bool m.dn) ∧ W9.cell? ⟨b6, 10, none⟩ = some (.slice pe ne ce) ∧ W9.cell? ⟨b6, 11, none⟩ = some (.slice pv nv cv) ∧ W9.cell? ⟨b6, 12, none⟩ = some (.slice pd nd cd))
      have HG9 := hide hG9
      clear hks hs9 m0 mf0 m1 mf1 m2 mf2 m3 mf3 m4 mf4 m5 mf5 m6 mf6 m7 mf7 m8 mf8 m9 mf9 m10 mf10 m11 mf11 m12 mf12
      first
        | refine hK.out _ _ ?_ (fun hHeld => ?_)
        | (go_wp2_with fail; refine hK.out _ _ ?_ (fun hHeld => ?_))
      · (try dsimp only)
        exact HS9.out
      clear hK K
      try simp only [Act.put, List.setIfInBounds_toArray, List.set_cons_zero, List.set_cons_succ]
      refine wpAnyH_ready (rs := [5]) (by kernel_rfl) (by simp) ?_
      refine AllReadyH.cons (o := { dst := some 5, op := Op.assign (Operand.tmp 17), type := 31, pos := "net.go:66", after := _, guard := none }) rfl (fun K hK => ?_) ?_
      · go_simp
        first
          | refine hK.out _ _ ?_ (fun hHeld => ?_)
          | (go_wp2_with fail; refine hK.out _ _ ?_ (fun hHeld => ?_))
        · (try dsimp only)
          first | exact HS9.out | assumption
        clear hK K
        try simp only [Act.put, List.setIfInBounds_toArray, List.set_cons_zero, List.set_cons_succ]
        refine wpAnyH_done (by kernel_rfl) ?_ _
        go_wp2
        refine bodyPost_ret (v := .tuple #[.agg #[.int .i64 m.k, .int .i64 m.f, .int .i64 m.t, .int .i64 m.tm, .int .i64 m.ix, .int .i64 m.lt, .int .i64 m.cm, .int .i64 m.rd, .bool m.ys, .bool m.dn, .slice pe ne ce, .slice pv nv cv, .slice pd nd cd], .int .i64 6]) (by simp [results, Try.results24, go_sem, n0_, n1_, n2_, n3_, n4_, n5_, n6_, n7_, n8_, n9_, n10_, n11_, n12_, hz9]) rfl ⟨.slice pe ne ce, .slice pv nv cv, .slice pd nd cd, rfl, ?_, ?_⟩
        · have h1 : MsO X.heap.size w5 m (.slice pe ne ce) (.slice pv nv cv) (.slice pd nd cd) := HMB.out.below (HBY.out.trans (HB5.out.mono HBY.out.size))
          exact (h1.grownLt HG9.out HWX.out).mono (by have := HWX.out; omega)
        · have h1 : Below w.heap.size w w5 := HBX.out.trans ((HXY.out.trans (HB5.out.mono HXY.out.size)).mono HBX.out.size)
          exact h1.grown HG9.out h1.size fun k hk => by injection hk with hk; omega
      exact AllReadyH.nil
    exact AllReadyH.nil
  exact AllReadyH.nil
end Go.Proofs.Ytlmoiaeppehiiaa
/- short. -/
namespace Go.Proofs.Ytlmoiaeppehiiaa
set_option linter.unusedVariables false
set_option linter.unusedSimpArgs false
open Go.RowKit

/-- A call of a bag: its word, its number, its messages and where they lie. -/
structure Dn where
  op : Int
  id : Int
  p : Option Addr
  n : Nat
  c : Nat
  L : List Ms
/-- Some bool. -/
def SomeB (e : Ending) : Prop := ∃ q, e = .returned (.bool q)
def dnC (d : Dn) : List Value := [.int .i64 d.op, .int .i64 d.id, .slice d.p d.n d.c]
def Dns (w : World) (v : Value) (D : List Dn) : Prop := ∃ (p : Option Addr) (c : Nat), v = .slice p D.length c ∧ D.length ≤ c ∧ c ≤ maxLen ∧ ∀ (k : Nat) d, D[k]? = some d → ∃ g o, p = some ⟨g, o, none⟩ ∧ Mss w (.slice d.p d.n d.c) d.L ∧ ∀ (j : Nat) x, (dnC d)[j]? = some x → w.cell? ⟨g, o + k * 3 + j, none⟩ = some x
theorem Mss.below {w w' : World} {v : Value} {L : List Ms} (h : Mss w v L) (hb : Below w.heap.size w w') : Mss w' v L := by
  obtain ⟨p, c, e, h1, h2, h3⟩ := h
  refine ⟨p, c, e, h1, h2, fun k m hk => ?_⟩
  obtain ⟨g, o, ve, vv, vd, e1, hm, hc⟩ := h3 k m hk
  exact ⟨g, o, ve, vv, vd, e1, hm.below hb, fun j x hj => (hb.cell (lt_of_cell (hc j x hj))).trans (hc j x hj)⟩
theorem Dns.below {w w' : World} {v : Value} {D : List Dn} (h : Dns w v D) (hb : Below w.heap.size w w') : Dns w' v D := by
  obtain ⟨p, c, e, h1, h2, h3⟩ := h
  refine ⟨p, c, e, h1, h2, fun k d hk => ?_⟩
  obtain ⟨g, o, e1, hm, hc⟩ := h3 k d hk
  exact ⟨g, o, e1, hm.below hb, fun j x hj => (hb.cell (lt_of_cell (hc j x hj))).trans (hc j x hj)⟩

set_option maxRecDepth 200000 in
set_option maxHeartbeats 4000000 in
theorem short_any {w : World} {v : Value} {D : List Dn} (h : Dns w v D) : Calls Try.prog 20 #[v] w fun e w' => SomeB e ∧ Below w.heap.size w w' := by
  have HD := hide (fun W (hW : Below w.heap.size w W) => h.below hW)
  obtain ⟨p, c, rfl, hlc, hcm, hx⟩ := h
  have hn9 : (D.length : Int) ≤ 9223372036854775807 := by unfold maxLen at hcm; omega
  obtain ⟨n, hn⟩ : ∃ n, D.length = n := ⟨_, rfl⟩
  rw [hn] at hn9 HD ⊢
  have HN := hide hn
  clear hlc hcm hx hn
  go_enter Try.func20, Try.ntmps20
  go_wp2_with fail
  go_loopw [3, 4] (fun a i wr => ∃ (k : Nat) (b : Int), k ≤ n ∧ i = .int .i64 k ∧ a = .int .i64 b ∧ Hid (Below w.heap.size w wr)) (fun _ i _ => n - (intOf i).toNat)
  case atStart => exact ⟨0, 0, by omega, rfl, rfl, hide (Below.refl _ _)⟩
  case round =>
    obtain ⟨k, b, hk, rfl, rfl, HB⟩ := hrel
    by_cases hlt : k < n
    · by_cases h4 : (k : Int) ≤ 400
      · have e1 : decide ((k : Int) ≤ 400) = true := decide_eq_true h4
        by_cases hb : b ≤ 65536
        · have e2 : decide (b ≤ 65536) = true := decide_eq_true hb
          have hkL : k < D.length := by have := HN.out; omega
          obtain ⟨d, hd⟩ : ∃ d, D[k]? = some d := ⟨_, List.getElem?_eq_getElem hkL⟩
          obtain ⟨p', c', hpe, _, _, hms⟩ := HD.out wr HB.out
          injection hpe with hpe1 hpe2 hpe3
          subst hpe1 hpe3
          clear hpe2
          obtain ⟨g2, o2, rfl, hmv, hc⟩ := hms k d hd
          obtain ⟨oo, hoo⟩ : ∃ oo, o2 + k * 3 = oo := ⟨_, rfl⟩
          rw [hoo] at hc
          have c2 := hc 2 _ rfl
          have HW := hide (weight_any hmv)
          obtain ⟨dp, hdp⟩ : ∃ x, d.p = x := ⟨_, rfl⟩
          obtain ⟨dn, hdn⟩ : ∃ x, d.n = x := ⟨_, rfl⟩
          obtain ⟨dc, hdc⟩ : ∃ x, d.c = x := ⟨_, rfl⟩
          rw [hdp, hdn, hdc] at c2 HW
          have j0 : (0 : Int) ≤ (k : Int) := by omega
          have j1 : (k : Int) < (n : Int) := by omega
          clear hd hkL hmv hc hms hdp hdn hdc
          go_wp2_with fail
          refine HW.out.mono ?_
          rintro e w5 ⟨⟨x, rfl⟩, hb5⟩
          have HB5 := hide (HB.out.trans (hb5.mono HB.out.size))
          clear hb5
          go_wp2
          go_roundw
          case rel => exact ⟨k + 1, _, by omega, by go_num, rfl, HB5⟩
          case measure => simp [intOf]; omega
        · have e2 : decide (b ≤ 65536) = false := decide_eq_false hb
          by_cases h5 : (n : Int) ≤ 400
          · have e5 : decide ((n : Int) ≤ 400) = true := decide_eq_true h5
            go_wp2
            go_ret
            exact ⟨⟨_, rfl⟩, HB.out⟩
          · have e5 : decide ((n : Int) ≤ 400) = false := decide_eq_false h5
            go_wp2
            go_ret
            exact ⟨⟨_, rfl⟩, HB.out⟩
      · have e1 : decide ((k : Int) ≤ 400) = false := decide_eq_false h4
        by_cases hb : b ≤ 65536
        · have e2 : decide (b ≤ 65536) = true := decide_eq_true hb
          by_cases h5 : (n : Int) ≤ 400
          · omega
          · have e5 : decide ((n : Int) ≤ 400) = false := decide_eq_false h5
            go_wp2
            go_ret
            exact ⟨⟨_, rfl⟩, HB.out⟩
        · have e2 : decide (b ≤ 65536) = false := decide_eq_false hb
          by_cases h5 : (n : Int) ≤ 400
          · omega
          · have e5 : decide ((n : Int) ≤ 400) = false := decide_eq_false h5
            go_wp2
            go_ret
            exact ⟨⟨_, rfl⟩, HB.out⟩
    · by_cases h5 : (n : Int) ≤ 400
      · have e5 : decide ((n : Int) ≤ 400) = true := decide_eq_true h5
        go_wp2
        go_ret
        exact ⟨⟨_, rfl⟩, HB.out⟩
      · have e5 : decide ((n : Int) ≤ 400) = false := decide_eq_false h5
        go_wp2
        go_ret
        exact ⟨⟨_, rfl⟩, HB.out⟩
end Go.Proofs.Ytlmoiaeppehiiaa
/- Calls of a bag that came in as arguments. -/
namespace Go.Proofs.Ytlmoiaeppehiiaa
set_option linter.unusedVariables false
set_option linter.unusedSimpArgs false
open Go.RowKit Go.Deep Go.ChangeShapes

set_option maxRecDepth 200000 in
theorem msg_of_cells {H : Type} {enc : TypeId × Value → H} {W : World} {cs : List Value} {fuel : Nat} {x : DataW H × List MemPlace} (hcs : cs.length = 13)
    (h : DataW.trod enc Try.prog W 0 (fun _ => true) true fuel 26 cs = some x) : ∃ m ve vv vd, cs = msC m ve vv vd ∧ MsV W m ve vv vd := by
  obtain ⟨xs, n0, hd0, hd1, hd2, hxl, hx⟩ := DataW.trod_struct Try.underlying26 h
  obtain ⟨c0, c1, c2, c3, c4, c5, c6, c7, c8, c9, c10, c11, c12, rfl⟩ : ∃ c0 c1 c2 c3 c4 c5 c6 c7 c8 c9 c10 c11 c12, cs = [c0, c1, c2, c3, c4, c5, c6, c7, c8, c9, c10, c11, c12] := by
    rcases cs with _ | ⟨c0, _ | ⟨c1, _ | ⟨c2, _ | ⟨c3, _ | ⟨c4, _ | ⟨c5, _ | ⟨c6, _ | ⟨c7, _ | ⟨c8, _ | ⟨c9, _ | ⟨c10, _ | ⟨c11, _ | ⟨c12, _ | ⟨c13, r⟩⟩⟩⟩⟩⟩⟩⟩⟩⟩⟩⟩⟩⟩
    all_goals first | (exfalso; simp at hcs; done) | exact ⟨_, _, _, _, _, _, _, _, _, _, _, _, _, rfl⟩
  obtain ⟨y0, y1, y2, y3, y4, y5, y6, y7, y8, y9, y10, y11, y12, rfl⟩ : ∃ y0 y1 y2 y3 y4 y5 y6 y7 y8 y9 y10 y11 y12, xs = [y0, y1, y2, y3, y4, y5, y6, y7, y8, y9, y10, y11, y12] := by
    rcases xs with _ | ⟨y0, _ | ⟨y1, _ | ⟨y2, _ | ⟨y3, _ | ⟨y4, _ | ⟨y5, _ | ⟨y6, _ | ⟨y7, _ | ⟨y8, _ | ⟨y9, _ | ⟨y10, _ | ⟨y11, _ | ⟨y12, _ | ⟨y13, r⟩⟩⟩⟩⟩⟩⟩⟩⟩⟩⟩⟩⟩⟩
    all_goals first | (exfalso; simp at hxl; done) | exact ⟨_, _, _, _, _, _, _, _, _, _, _, _, _, rfl⟩
  have q0 : DataW.trod enc Try.prog W 0 (fun _ => true) true n0 3 (List.take (Try.prog.cellsOf 3) [c0, c1, c2, c3, c4, c5, c6, c7, c8, c9, c10, c11, c12]) = some y0 := hx 0 _ rfl
  rw [Try.cells3] at q0
  have q1 : DataW.trod enc Try.prog W 0 (fun _ => true) true n0 3 (List.take (Try.prog.cellsOf 3) [c1, c2, c3, c4, c5, c6, c7, c8, c9, c10, c11, c12]) = some y1 := hx 1 _ rfl
  rw [Try.cells3] at q1
  have q2 : DataW.trod enc Try.prog W 0 (fun _ => true) true n0 3 (List.take (Try.prog.cellsOf 3) [c2, c3, c4, c5, c6, c7, c8, c9, c10, c11, c12]) = some y2 := hx 2 _ rfl
  rw [Try.cells3] at q2
  have q3 : DataW.trod enc Try.prog W 0 (fun _ => true) true n0 3 (List.take (Try.prog.cellsOf 3) [c3, c4, c5, c6, c7, c8, c9, c10, c11, c12]) = some y3 := hx 3 _ rfl
  rw [Try.cells3] at q3
  have q4 : DataW.trod enc Try.prog W 0 (fun _ => true) true n0 3 (List.take (Try.prog.cellsOf 3) [c4, c5, c6, c7, c8, c9, c10, c11, c12]) = some y4 := hx 4 _ rfl
  rw [Try.cells3] at q4
  have q5 : DataW.trod enc Try.prog W 0 (fun _ => true) true n0 3 (List.take (Try.prog.cellsOf 3) [c5, c6, c7, c8, c9, c10, c11, c12]) = some y5 := hx 5 _ rfl
  rw [Try.cells3] at q5
  have q6 : DataW.trod enc Try.prog W 0 (fun _ => true) true n0 3 (List.take (Try.prog.cellsOf 3) [c6, c7, c8, c9, c10, c11, c12]) = some y6 := hx 6 _ rfl
  rw [Try.cells3] at q6
  have q7 : DataW.trod enc Try.prog W 0 (fun _ => true) true n0 3 (List.take (Try.prog.cellsOf 3) [c7, c8, c9, c10, c11, c12]) = some y7 := hx 7 _ rfl
  rw [Try.cells3] at q7
  have q8 : DataW.trod enc Try.prog W 0 (fun _ => true) true n0 4 (List.take (Try.prog.cellsOf 4) [c8, c9, c10, c11, c12]) = some y8 := hx 8 _ rfl
  rw [Try.cellsBo] at q8
  have q9 : DataW.trod enc Try.prog W 0 (fun _ => true) true n0 4 (List.take (Try.prog.cellsOf 4) [c9, c10, c11, c12]) = some y9 := hx 9 _ rfl
  rw [Try.cellsBo] at q9
  have q10 : DataW.trod enc Try.prog W 0 (fun _ => true) true n0 22 (List.take (Try.prog.cellsOf 22) [c10, c11, c12]) = some y10 := hx 10 _ rfl
  rw [Try.cellsSl] at q10
  have q11 : DataW.trod enc Try.prog W 0 (fun _ => true) true n0 23 (List.take (Try.prog.cellsOf 23) [c11, c12]) = some y11 := hx 11 _ rfl
  rw [Try.cellsIs] at q11
  have q12 : DataW.trod enc Try.prog W 0 (fun _ => true) true n0 24 (List.take (Try.prog.cellsOf 24) [c12]) = some y12 := hx 12 _ rfl
  rw [Try.cellsBy] at q12
  obtain ⟨a0, e0, -, w0⟩ := DataW.trod_int Try.underlying3 q0
  obtain ⟨a1, e1, -, w1⟩ := DataW.trod_int Try.underlying3 q1
  obtain ⟨a2, e2, -, w2⟩ := DataW.trod_int Try.underlying3 q2
  obtain ⟨a3, e3, -, w3⟩ := DataW.trod_int Try.underlying3 q3
  obtain ⟨a4, e4, -, w4⟩ := DataW.trod_int Try.underlying3 q4
  obtain ⟨a5, e5, -, w5⟩ := DataW.trod_int Try.underlying3 q5
  obtain ⟨a6, e6, -, w6⟩ := DataW.trod_int Try.underlying3 q6
  obtain ⟨a7, e7, -, w7⟩ := DataW.trod_int Try.underlying3 q7
  obtain ⟨a8, e8, -⟩ := DataW.trod_bool Try.underlying4 q8
  obtain ⟨a9, e9, -⟩ := DataW.trod_bool Try.underlying4 q9
  obtain ⟨pe, ne, ce, L, e10, hE, -⟩ := ens_of_trod q10
  obtain ⟨pv, nv, cv, lv, e11, hV⟩ := ns_of_cell q11
  obtain ⟨pd, nd, cd, ld, e12, hD⟩ := data_of_cell q12
  simp at e0 e1 e2 e3 e4 e5 e6 e7 e8 e9 e10
  subst e0 e1 e2 e3 e4 e5 e6 e7 e8 e9 e10 e11 e12
  refine ⟨⟨a0, a1, a2, a3, a4, a5, a6, a7, a8, a9, L, lv, ld⟩, .slice pe ne ce, .slice pv nv cv, .slice pd nd cd, ?_, hE, hV, hD, ?_⟩
  · rfl
  · intro x hx
    simp only [Ms.nums, List.mem_cons, List.not_mem_nil, or_false] at hx
    rcases hx with rfl | rfl | rfl | rfl | rfl | rfl | rfl | rfl
    · exact fits_wf w0
    · exact fits_wf w1
    · exact fits_wf w2
    · exact fits_wf w3
    · exact fits_wf w4
    · exact fits_wf w5
    · exact fits_wf w6
    · exact fits_wf w7

theorem msgs_of_trod {H : Type} {enc : TypeId × Value → H} {W : World} {cs : List Value} {fuel : Nat} {x : DataW H × List MemPlace}
    (h : DataW.trod enc Try.prog W 0 (fun _ => true) true fuel 28 cs = some x) : ∃ p n c L, cs = [.slice p n c] ∧ Mss W (.slice p n c) L := by
  rcases DataW.trod_slice Try.underlying28 h with ⟨hcs, hx0⟩ | ⟨a, len, cap, elems, rest, n, hx0, hcs, hd, hb0, hl, hm, hel, hx, -, -⟩
  · exact ⟨none, 0, 0, [], hcs, none, 0, rfl, Nat.le_refl _, by decide, fun k m hk => by simp at hk⟩
  · rw [Try.cellsMs] at hx
    rcases Nat.eq_zero_or_pos len with h0 | h0
    · subst h0
      exact ⟨some a, 0, cap, [], hcs, some a, cap, rfl, by simp, hm, fun k m hk => by simp at hk⟩
    have hsp : a.spot = none := by
      have h1 := hx 0 h0
      rw [List.getElem?_eq_getElem (by omega)] at h1
      obtain ⟨cs, h2, h3⟩ := Option.bind_eq_some_iff.1 h1
      obtain ⟨hb, hcl, hcell⟩ := World.cells?_some h2
      obtain ⟨m, ve, vv, vd, rfl, _⟩ := msg_of_cells hcl h3
      have z0 := World.cell?_spot (show W.cell? _ = some (.int .i64 m.k) from hcell 0 (by omega))
      simp [Addr.add] at z0
      exact z0
    obtain ⟨g, o, spot⟩ := a
    obtain rfl : spot = none := hsp
    have each : ∀ i, i < len → ∃ y : Ms × Value × Value × Value, MsV W y.1 y.2.1 y.2.2.1 y.2.2.2 ∧ ∀ (j : Nat) u, (msC y.1 y.2.1 y.2.2.1 y.2.2.2)[j]? = some u → W.cell? ⟨g, o + i * 13 + j, none⟩ = some u := fun i hi => by
      have h1 := hx i hi
      rw [List.getElem?_eq_getElem (by omega)] at h1
      obtain ⟨cs, h2, h3⟩ := Option.bind_eq_some_iff.1 h1
      obtain ⟨hb, hcl, hcell⟩ := World.cells?_some h2
      obtain ⟨m, ve, vv, vd, rfl, hv⟩ := msg_of_cells hcl h3
      refine ⟨(m, ve, vv, vd), hv, fun k u hk => ?_⟩
      have hk6 : k < 13 := (List.getElem?_eq_some_iff.1 hk).1
      have := hcell k hk6
      rw [add_lit0, add_lit0] at this
      rw [this]
      exact hk
    let pr : Nat → Ms × Value × Value × Value := fun i => if h : i < len then (each i h).choose else (ms0, .slice none 0 0, .slice none 0 0, .slice none 0 0)
    have hpr : ∀ i, (h : i < len) → pr i = (each i h).choose := fun i h => by simp only [pr, dif_pos h]
    refine ⟨some ⟨g, o, none⟩, len, cap, (List.range len).map fun i => (pr i).1, hcs, some ⟨g, o, none⟩, cap, by simp, by simpa using hl, hm, fun k m hk => ?_⟩
    have hlt : k < len := by
      have := (List.getElem?_eq_some_iff.1 hk).1
      simpa using this
    rw [List.getElem?_map, List.getElem?_range hlt, Option.map_some] at hk
    injection hk with hk
    subst hk
    have hs := (each k hlt).choose_spec
    rw [← hpr k hlt] at hs
    exact ⟨g, o, _, _, _, rfl, hs.1, hs.2⟩
theorem Try.cellsMl : Try.prog.cellsOf 28 = 1 := by kernel_rfl
theorem Try.cellsDo : Try.prog.cellsOf 52 = 3 := by kernel_rfl
set_option maxRecDepth 200000 in
theorem do_of_arg {H : Type} {enc : TypeId × Value → H} {W : World} {base : Nat} {v : Value} {d0 : DataW H} {p0 : List MemPlace} (hv : Value.okWide Try.prog W .any base 52 v)
    (h : DataW.Trod enc Try.prog W 0 (fun _ => true) true 52 v d0 p0) : ∃ a0 a1 p n c L, v = .agg #[.int .i64 a0, .int .i64 a1, .slice p n c] ∧ Mss W (.slice p n c) L := by
  unfold Value.okWide at hv
  rw [Try.underlying52] at hv
  obtain ⟨cs, rfl, hsz, _⟩ := hv
  obtain ⟨fuel, hf⟩ := h
  have hf' : DataW.trod enc Try.prog W 0 (fun _ => true) true fuel 52 cs.toList = some (d0, p0) := hf
  have hcs : cs.toList.length = 3 := by rw [Array.length_toList, hsz, Try.cellsDo]
  obtain ⟨xs, n0, hd0, hd1, hd2, hxl, hx⟩ := DataW.trod_struct Try.underlying52 hf'
  obtain ⟨l, hl⟩ : ∃ l, cs.toList = l := ⟨_, rfl⟩
  rw [hl] at hcs hx
  obtain ⟨c0, c1, c2, rfl⟩ : ∃ c0 c1 c2, l = [c0, c1, c2] := by
    rcases l with _ | ⟨c0, _ | ⟨c1, _ | ⟨c2, _ | ⟨c3, r⟩⟩⟩⟩
    all_goals first | (exfalso; simp at hcs; done) | exact ⟨_, _, _, rfl⟩
  obtain ⟨y0, y1, y2, rfl⟩ : ∃ y0 y1 y2, xs = [y0, y1, y2] := by
    rcases xs with _ | ⟨c0, _ | ⟨c1, _ | ⟨c2, _ | ⟨c3, r⟩⟩⟩⟩
    all_goals first | (exfalso; simp at hxl; done) | exact ⟨_, _, _, rfl⟩
  have q0 : DataW.trod enc Try.prog W 0 (fun _ => true) true n0 3 (List.take (Try.prog.cellsOf 3) [c0, c1, c2]) = some y0 := hx 0 _ rfl
  rw [Try.cells3] at q0
  have q1 : DataW.trod enc Try.prog W 0 (fun _ => true) true n0 3 (List.take (Try.prog.cellsOf 3) [c1, c2]) = some y1 := hx 1 _ rfl
  rw [Try.cells3] at q1
  have q2 : DataW.trod enc Try.prog W 0 (fun _ => true) true n0 28 (List.take (Try.prog.cellsOf 28) [c2]) = some y2 := hx 2 _ rfl
  rw [Try.cellsMl] at q2
  obtain ⟨a0, e0, -, w0⟩ := DataW.trod_int Try.underlying3 q0
  obtain ⟨a1, e1, -, w1⟩ := DataW.trod_int Try.underlying3 q1
  obtain ⟨p, n, c, L, eL, hE⟩ := msgs_of_trod q2
  simp at e0 e1 eL
  subst e0 e1 eL
  refine ⟨a0, a1, p, n, c, L, ?_, hE⟩
  congr 1
  exact Array.toList_inj.1 (by rw [hl])
end Go.Proofs.Ytlmoiaeppehiiaa
/- A bag that no call made, asked for all. -/
namespace Go.Proofs.Ytlmoiaeppehiiaa
set_option linter.unusedVariables false
set_option linter.unusedSimpArgs false
open Go.RowKit

theorem dns_one {W : World} {b : Nat} {a0 a1 : Int} {p : Option Addr} {n c : Nat} {L : List Ms} (hr : W.heap[b]? = some (.cells #[.int .i64 a0, .int .i64 a1, .slice p n c] 52 (0, 0))) (h : Mss W (.slice p n c) L) : Dns W (.slice (some ⟨b, 0, none⟩) 1 1) [⟨a0, a1, p, n, c, L⟩] := by
  refine ⟨_, 1, rfl, Nat.le_refl _, by decide, fun k x hk => ?_⟩
  match k, hk with
  | 0, hk =>
    simp at hk
    subst hk
    refine ⟨b, 0, rfl, h, fun j x hj => ?_⟩
    have hjl := (List.getElem?_eq_some_iff.1 hj).1
    rw [cell_of_row W b _ _ _ (0, 0) hr]
    rw [← hj]
    have h13 : j < 3 := hjl
    match j, h13 with
    | 0, _ => rfl
    | 1, _ => rfl
    | 2, _ => rfl
  | k + 1, hk => simp at hk
def NobI (w : World) (a1 : Int) (p : Option Addr) (n c : Nat) (bG : Nat) (wr : World) : Prop := Below w.heap.size w wr ∧ wr.cell? ⟨w.heap.size, 1, none⟩ = some (.int .i64 a1) ∧ wr.cell? ⟨w.heap.size, 2, none⟩ = some (.slice p n c) ∧ wr.cell? ⟨bG + 1, 0, none⟩ = some (.pointer none) ∧ wr.cell? ⟨bG + 1, 1, none⟩ = some (.pointer (some ⟨bG, 0, none⟩)) ∧ wr.cell? ⟨bG, 0, none⟩ = some (.bool false)
theorem NobI.step {w : World} {a1 : Int} {p : Option Addr} {n c bG : Nat} {wr wx : World} (h : NobI w a1 p n c bG wr) (hb : Below wr.heap.size wr wx) : NobI w a1 p n c bG wx := by
  obtain ⟨h0, h1, h2, h3, h4, h5⟩ := h
  exact ⟨h0.trans (hb.mono h0.size), (hb.cell (lt_of_cell h1)).trans h1, (hb.cell (lt_of_cell h2)).trans h2, (hb.cell (lt_of_cell h3)).trans h3, (hb.cell (lt_of_cell h4)).trans h4, (hb.cell (lt_of_cell h5)).trans h5⟩
theorem NobI.at_ {w : World} {a1 : Int} {p : Option Addr} {n c bG : Nat} {wr : World} (h : NobI w a1 p n c bG wr) {k : Nat} (hk : k < 2) : ∃ a, wr.cell? ⟨bG + 1, k, none⟩ = some (.pointer a) ∧ NobB wr (.pointer a) := by
  match k, hk with
  | 0, _ => exact ⟨_, h.2.2.2.1, .inl rfl⟩
  | 1, _ => exact ⟨_, h.2.2.2.2.1, .inr ⟨_, rfl, h.2.2.2.2.2⟩⟩

set_option maxRecDepth 200000 in
set_option maxHeartbeats 4000000 in
theorem lawNob_any {w : World} {a0 a1 : Int} {p : Option Addr} {n c : Nat} {L : List Ms} (h : Mss w (.slice p n c) L) : Calls Try.prog 9 #[.agg #[.int .i64 a0, .int .i64 a1, .slice p n c]] w fun e w' => e = .returned (.bool true) ∧ Below w.heap.size w w' := by
  have HAW := hide (fun W => awake_any W)
  have HB0 := hide ((Below.refl w.heap.size w).alloc (Nat.le_refl _) (.cells #[.int .i64 a0, .int .i64 a1, .slice p n c] 52))
  have hr0 := heap_alloc_new w (.cells #[.int .i64 a0, .int .i64 a1, .slice p n c] 52)
  have HB1 := hide (HB0.out.alloc HB0.out.size (.cells #[.int .i64 a0, .int .i64 a1, .slice p n c] 52))
  have hr1 := heap_alloc_new (w.alloc (.cells #[.int .i64 a0, .int .i64 a1, .slice p n c] 52)) (.cells #[.int .i64 a0, .int .i64 a1, .slice p n c] 52)
  have hzz : (w.alloc (.cells #[.int .i64 a0, .int .i64 a1, .slice p n c] 52)).heap.size = w.heap.size + 1 := by simp
  rw [hzz] at hr1
  have HSH := hide (short_any (dns_one hr1 (h.below HB1.out)))
  have y0 := cell_of_row _ w.heap.size 0 _ 52 (0, 0) hr0
  have y1 := cell_of_row _ w.heap.size 1 _ 52 (0, 0) hr0
  have y2 := cell_of_row _ w.heap.size 2 _ 52 (0, 0) hr0
  simp only [List.getElem?_toArray, List.getElem?_cons_succ, List.getElem?_cons_zero] at y0 y1 y2
  have hbA : Below (w.alloc (.cells #[.int .i64 a0, .int .i64 a1, .slice p n c] 52)).heap.size (w.alloc (.cells #[.int .i64 a0, .int .i64 a1, .slice p n c] 52)) ((w.alloc (.cells #[.int .i64 a0, .int .i64 a1, .slice p n c] 52)).alloc (.cells #[.int .i64 a0, .int .i64 a1, .slice p n c] 52)) := (Below.refl _ _).alloc (Nat.le_refl _) _
  have HY1 := hide ((hbA.cell (lt_of_cell y1)).trans y1)
  have HY2 := hide ((hbA.cell (lt_of_cell y2)).trans y2)
  clear h hr0 hr1 hzz hbA
  go_enter Try.func9, Try.ntmps9
  go_wp2_with fail
  refine HSH.out.mono ?_
  rintro e w2 ⟨⟨q, rfl⟩, hb2⟩
  have HB2 := hide (HB1.out.trans (hb2.mono HB1.out.size))
  have HK1 := hide ((hb2.cell (lt_of_cell HY1.out)).trans HY1.out)
  have HK2 := hide ((hb2.cell (lt_of_cell HY2.out)).trans HY2.out)
  clear hb2 y0 y1 y2
  cases q with
  | false =>
    go_wp2_with fail
    refine (HAW.out _).mono ?_
    rintro e w3 ⟨rfl, hb3⟩
    go_wp2
    go_ret
    exact ⟨rfl, HB2.out.trans (hb3.mono HB2.out.size)⟩
  | true =>
    have bg := (Below.refl w2.heap.size w2).alloc (Nat.le_refl _) (.cells #[.bool false, .int .i64 0, .slice none 0 0] 66)
    have rg := cell_of_row _ w2.heap.size 0 _ 66 (0, 0) (heap_alloc_new w2 (.cells #[.bool false, .int .i64 0, .slice none 0 0] 66))
    have zg : (w2.alloc (.cells #[.bool false, .int .i64 0, .slice none 0 0] 66)).heap.size = w2.heap.size + 1 := by simp
    have rr := heap_alloc_new (w2.alloc (.cells #[.bool false, .int .i64 0, .slice none 0 0] 66)) (.cells #[.pointer none, .pointer (some ⟨w2.heap.size, 0, none⟩)] 46)
    rw [zg] at rr
    have br := (Below.refl _ (w2.alloc (.cells #[.bool false, .int .i64 0, .slice none 0 0] 66))).alloc (Nat.le_refl _) (.cells #[.pointer none, .pointer (some ⟨w2.heap.size, 0, none⟩)] 46)
    have b23 := bg.trans (br.mono bg.size)
    have HI0 := hide (show NobI w a1 p n c w2.heap.size ((w2.alloc (.cells #[.bool false, .int .i64 0, .slice none 0 0] 66)).alloc (.cells #[.pointer none, .pointer (some ⟨w2.heap.size, 0, none⟩)] 46)) from ⟨HB2.out.trans (b23.mono HB2.out.size), (b23.cell (lt_of_cell HK1.out)).trans HK1.out, (b23.cell (lt_of_cell HK2.out)).trans HK2.out, cell_of_row _ _ 0 _ _ (0, 0) rr, cell_of_row _ _ 1 _ _ (0, 0) rr, (br.cell (lt_of_cell rg)).trans rg⟩)
    clear bg rg zg rr br b23
    go_wp2_with fail
    go_loopw [4, 5, 6, 7, 8, 18] (fun _ _ _ _ _ i wr => ∃ k : Nat, k ≤ 2 ∧ i = .int .i64 k ∧ Hid (NobI w a1 p n c w2.heap.size wr)) (fun _ _ _ _ _ i _ => 2 - (intOf i).toNat)
    case atStart => exact ⟨0, by omega, rfl, HI0⟩
    case round =>
      obtain ⟨k, hk, rfl, HI⟩ := hrel
      by_cases hlt : k < 2
      · obtain ⟨a, hca, hna⟩ := HI.out.at_ hlt
        have HNA := hide hna
        have HPK := hide (peek_nob hna a1)
        have c1 := HI.out.2.1
        have c2 := HI.out.2.2.1
        have j0 : (0 : Int) ≤ (k : Int) := by omega
        have j1 : (k : Int) < 2 := by omega
        clear hna
        go_wp2_with fail
        refine HPK.out.mono ?_
        rintro e w5 ⟨ve, vv, vd, rfl, hm5, hb5⟩
        obtain ⟨pe5, ne5, ce5, rfl⟩ := hm5.es.ens.sl
        obtain ⟨pv5, nv5, cv5, rfl⟩ := hm5.vs.ns.sl
        obtain ⟨pd5, nd5, cd5, rfl⟩ := hm5.d.by_.sl
        have b6 := (Below.refl w5.heap.size w5).alloc (Nat.le_refl _) (.cells #[.int .i64 0, .int .i64 0, .int .i64 0, .int .i64 0, .int .i64 0, .int .i64 0, .int .i64 0, .int .i64 0, .bool false, .bool false, .slice pe5 ne5 ce5, .slice pv5 nv5 cv5, .slice pd5 nd5 cd5] 26)
        obtain ⟨W6, hW6⟩ : ∃ W, w5.alloc (.cells #[.int .i64 0, .int .i64 0, .int .i64 0, .int .i64 0, .int .i64 0, .int .i64 0, .int .i64 0, .int .i64 0, .bool false, .bool false, .slice pe5 ne5 ce5, .slice pv5 nv5 cv5, .slice pd5 nd5 cd5] 26) = W := ⟨_, rfl⟩
        have HX6 := hide (Box13.new w5 26 (.int .i64 0) (.int .i64 0) (.int .i64 0) (.int .i64 0) (.int .i64 0) (.int .i64 0) (.int .i64 0) (.int .i64 0) (.bool false) (.bool false) (.slice pe5 ne5 ce5) (.slice pv5 nv5 cv5) (.slice pd5 nd5 cd5))
        have HM6 := hide (hm5.v.below b6)
        rw [hW6] at b6 HX6 HM6
        have bR6 : Below wr.heap.size wr W6 := hb5.trans (b6.mono hb5.size)
        have HBR6 := hide bR6
        have HI6 := hide (HI.out.step bR6)
        have HTK := hide (take_nob (HNA.out.below bR6) a1)
        have HW6 := hide hW6
        have d1 : (w5.alloc (.cells #[.int .i64 0, .int .i64 0, .int .i64 0, .int .i64 0, .int .i64 0, .int .i64 0, .int .i64 0, .int .i64 0, .bool false, .bool false, .slice pe5 ne5 ce5, .slice pv5 nv5 cv5, .slice pd5 nd5 cd5] 26)).cell? ⟨w.heap.size, 1, none⟩ = some (.int .i64 a1) := by rw [hW6]; exact HI6.out.2.1
        unfold msA ms0
        dsimp only
        clear hm5 hb5 b6 bR6 hW6 hca c1 c2
        go_wp2_with fail
        rw [HW6.out]
        refine HTK.out.mono ?_
        rintro e w7 ⟨ve, vv, vd, rfl, hm7, hb7⟩
        obtain ⟨pe7, ne7, ce7, rfl⟩ := hm7.es.ens.sl
        obtain ⟨pv7, nv7, cv7, rfl⟩ := hm7.vs.ns.sl
        obtain ⟨pd7, nd7, cd7, rfl⟩ := hm7.d.by_.sl
        have b8 := (Below.refl w7.heap.size w7).alloc (Nat.le_refl _) (.cells #[.int .i64 0, .int .i64 0, .int .i64 0, .int .i64 0, .int .i64 0, .int .i64 0, .int .i64 0, .int .i64 0, .bool false, .bool false, .slice pe7 ne7 ce7, .slice pv7 nv7 cv7, .slice pd7 nd7 cd7] 26)
        have HX8 := hide (Box13.new w7 26 (.int .i64 0) (.int .i64 0) (.int .i64 0) (.int .i64 0) (.int .i64 0) (.int .i64 0) (.int .i64 0) (.int .i64 0) (.bool false) (.bool false) (.slice pe7 ne7 ce7) (.slice pv7 nv7 cv7) (.slice pd7 nd7 cd7))
        have b68 : Below W6.heap.size W6 (w7.alloc (.cells #[.int .i64 0, .int .i64 0, .int .i64 0, .int .i64 0, .int .i64 0, .int .i64 0, .int .i64 0, .int .i64 0, .bool false, .bool false, .slice pe7 ne7 ce7, .slice pv7 nv7 cv7, .slice pd7 nd7 cd7] 26)) := hb7.trans (b8.mono hb7.size)
        have HX6' := hide (HX6.out.below b68)
        have HM6' := hide (HM6.out.below b68)
        have HM8 := hide (hm7.v.below b8)
        have HI8 := hide (HI6.out.step b68)
        have HNA8 := hide ((HNA.out.below HBR6.out).below b68)
        have HS8 := hide (sameM_any HM6'.out ((MsO.zero w7.heap.size (w7.alloc (.cells #[.int .i64 0, .int .i64 0, .int .i64 0, .int .i64 0, .int .i64 0, .int .i64 0, .int .i64 0, .int .i64 0, .bool false, .bool false, .slice pe7 ne7 ce7, .slice pv7 nv7 cv7, .slice pd7 nd7 cd7] 26))).v))
        have HS9 := hide (fun W (hW : Below (w7.alloc (.cells #[.int .i64 0, .int .i64 0, .int .i64 0, .int .i64 0, .int .i64 0, .int .i64 0, .int .i64 0, .int .i64 0, .bool false, .bool false, .slice pe7 ne7 ce7, .slice pv7 nv7 cv7, .slice pd7 nd7 cd7] 26)).heap.size (w7.alloc (.cells #[.int .i64 0, .int .i64 0, .int .i64 0, .int .i64 0, .int .i64 0, .int .i64 0, .int .i64 0, .int .i64 0, .bool false, .bool false, .slice pe7 ne7 ce7, .slice pv7 nv7 cv7, .slice pd7 nd7 cd7] 26)) W) => sameM_any (HM8.out.below hW) ((MsO.zero w7.heap.size W).v))
        unfold msA ms0 at HS8 HS9
        try dsimp only at HS8 HS9
        unfold msA ms0
        dsimp only
        obtain ⟨y0, y1, y2, y3, y4, y5, y6, y7, y8, y9, y10, y11, y12⟩ := HX6'.out
        clear hm7 hb7 b8 b68 d1 HTK HPK
        go_wp2_with fail
        refine HS8.out.mono ?_
        rintro e w9 ⟨rfl, hb9⟩
        have HB9 := hide hb9
        have HI9 := hide (HI8.out.step hb9)
        have HNA9 := hide (HNA8.out.below hb9)
        obtain ⟨z0, z1, z2, z3, z4, z5, z6, z7, z8, z9, z10, z11, z12⟩ := HX8.out.below hb9
        clear hb9 y0 y1 y2 y3 y4 y5 y6 y7 y8 y9 y10 y11 y12
        go_wp2_with fail
        refine (HS9.out _ HB9.out).mono ?_
        rintro e w10 ⟨rfl, hb10⟩
        have HI10 := hide (HI9.out.step hb10)
        have HNA10 := hide (HNA9.out.below hb10)
        have HLS := hide (lose_nob HNA10.out a1)
        have c1 := HI10.out.2.1
        clear hb10 z0 z1 z2 z3 z4 z5 z6 z7 z8 z9 z10 z11 z12
        go_wp2_with fail
        refine HLS.out.mono ?_
        rintro e w11 ⟨rfl, hb11⟩
        have HI11 := hide (HI10.out.step hb11)
        have HNA11 := hide (HNA10.out.below hb11)
        have HDB := hide (double_nob HNA11.out a1)
        have c1' := HI11.out.2.1
        clear hb11
        go_wp2_with fail
        refine HDB.out.mono ?_
        rintro e w12 ⟨rfl, hb12⟩
        have HI12 := hide (HI11.out.step hb12)
        have HNA12 := hide (HNA11.out.below hb12)
        have HSN := hide (send_nob HNA12.out p n c)
        have c2' := HI12.out.2.2.1
        clear hb12
        go_wp2_with fail
        refine HSN.out.mono ?_
        rintro e w13 ⟨rfl, rfl⟩
        have HLI := hide (list_nob HNA12.out)
        go_wp2_with fail
        refine HLI.out.mono ?_
        rintro e w14 ⟨rfl, rfl⟩
        go_wp2
        go_roundw
        case rel => exact ⟨k + 1, by omega, by go_num, HI12⟩
        case measure => simp [intOf]; omega
      · have e1 : decide ((k : Int) < 2) = false := decide_eq_false (by omega)
        go_wp2_with fail
        refine (HAW.out _).mono ?_
        rintro e w3 ⟨rfl, hb3⟩
        go_wp2
        go_ret
        exact ⟨rfl, HI.out.1.trans (hb3.mono HI.out.1.size)⟩
end Go.Proofs.Ytlmoiaeppehiiaa
/- A bag that no call made. No condition. -/
namespace Go.Proofs.Ytlmoiaeppehiiaa.netNobody
open Go.ChangeShapes Go.WideShapes Go.ChangeAt Go.RowKit
open Go.ChangeMaps (open_string shut_string)
set_option linter.unusedVariables false

theorem own : ownKnob Try.prog.godebug = none := by kernel_rfl
theorem laidOut : laidOutB Try.prog = true := by kernel_rfl

set_option maxRecDepth 100000 in
theorem lifted (os : Os) (started : os.Started) (H : Type) (enc : TypeId × Value → H) :
    ReturnsInHanded {} Try.checked os 9 .any (Rows.netNobodySpec.pre6 enc Try.prog Try.f9 Rows.netNobodyRow.domain false) (Rows.netNobodySpec.post enc Try.prog Try.f9 false true false false) := by
  refine returnsInHanded_of_change_sized (C := Try.checked) own started (by kernel_rfl) Try.func9
    (ChangeSpec.witness6 (enc := enc) (C := Try.checked) false ⟨#[], #[.agg #[.int .i64 0, .int .i64 0, .slice none 0 0]], []⟩ 8 (by kernel_rfl) (by kernel_rfl) (by kernel_rfl) (by kernel_rfl)) ?_
  intro W base args ds gs before hval0 hW hcnd hsz0 _
  have hval : ∀ (j : Nat) t v, Try.f9.params[j]? = some t → args[j]? = some v → Value.okWide Try.prog W .any base t v := hval0
  have hsz : (DataW.weightsEach Try.prog (Try.f9.params.toList ++ Rows.netNobodySpec.plain.varTypes Try.prog) (ds ++ gs)).all (· ≤ reachBytes) = true := hsz0
  have hW' := hW
  obtain ⟨p, q, hA0, hV, rfl, hfz, hnd⟩ := hW
  have hA : DataW.TrodAll enc Try.prog W 0 (fun _ => true) true Try.f9.params.toList args.toList ds p := hA0
  rw [Try.params9] at hA hval hsz
  obtain ⟨v0, vs0, d0, ds0, p0, q0, hargs, rfl, rfl, h0, r0⟩ := trodAll_cons hA
  obtain ⟨rfl, rfl, rfl⟩ := trodAll_nil r0
  obtain rfl : args = #[v0] := by cases args; simp_all
  obtain ⟨rfl, rfl⟩ := trodVars_none hV
  have k0 := h0
  have lt0 : ∀ x ∈ p0, x.block < W.heap.size := by obtain ⟨m, hm⟩ := k0; exact DataW.trod_lt m _ _ _ hm
  obtain ⟨op0, id0, pp0, nl0, cc0, L0, hv0, hM0⟩ := do_of_arg (hval 0 52 v0 rfl rfl) h0
  obtain rfl := hv0
  clear hA0 hval0
  refine (lawNob_any hM0).mono fun e W' ⟨he, bel⟩ => ?_
  subst he
  exact ⟨_, rfl, _, _, _, [], _, [], hW', trodAll_mk1 (shut_bool Try.underlying4 _), (trodAll_cons_mk (Below.trod laidOut (by kernel_rfl) (of_decide_eq_true (by kernel_rfl)) k0 bel lt0) trodAll_mk0), rfl, bel.frame _, fun h => by cases h⟩

theorem over : Rows.netNobodyRow.holds Try.pinned (OpenSpec.ofChange Rows.netNobodySpec) :=
  OpenClaim.holds_of_wide 9 Try.f9 rfl rfl rfl rfl rfl rfl rfl ⟨rfl, rfl, rfl, rfl, rfl⟩ rfl rfl rfl rfl rfl (by kernel_rfl) Try.func9 (by kernel_rfl)
    (of_decide_eq_true (by kernel_rfl)) (by unfold Func.isWrapper; first | (rw [if_pos (by decide +kernel)]; kernel_rfl) | (rw [if_neg (by decide +kernel)]; exact ⟨rfl, rfl⟩))
    (fun os started H enc _ => lifted os started H enc)

theorem proved : Rows.NetNobodySaid := over
end Go.Proofs.Ytlmoiaeppehiiaa.netNobody
