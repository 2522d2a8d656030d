/- Messages that are the same; a vote. -/
import Derived.Test.YtiiollgipfggmaaNRead
import Derived.Test.YtiiollgipfggmaaShelfB
namespace Go.Proofs.Ytiiollgipfggmaa
set_option linter.unusedVariables false
set_option linter.unusedSimpArgs false
open Go.RowKit

theorem eqInts_any {w : World} {v u : Value} {l : List Int} (hv : Ns w v l) (hu : Ns w u l) : Calls Try.prog 34 #[v, u] w fun e w' => e = .returned (.bool true) ∧ Below w.heap.size w w' := by
  obtain ⟨p, n, c, rfl⟩ := hv.sl
  obtain ⟨q, m, d, rfl⟩ := hu.sl
  obtain ⟨hn, h1, h2⟩ := hv.len
  obtain ⟨hm, h3, h4⟩ := hu.len
  have hmx : maxLen = 9223372036854775807 := rfl
  by_cases h0 : 0 < n
  · obtain ⟨g, o, rfl, hc⟩ := hv.at_ h0
    obtain ⟨g', o', rfl, hc'⟩ := hu.at_ (by omega)
    have e1 : ∀ j, (hj : j < l.length) → l.getD j 0 = l[j] := fun j hj => by simp [List.getD, hj]
    refine (Try.slices_Equal_int g o n c g' o' m d l l w (by omega) (by omega) (by omega) (by omega) (fun j hj => by rw [e1 j hj]; exact hc j _ (List.getElem?_eq_getElem hj)) (fun j hj => by rw [e1 j hj]; exact hc' j _ (List.getElem?_eq_getElem hj))).mono fun e w' ⟨he, q, hw⟩ => ⟨?_, by rw [hw]; exact bel_drewN (Below.refl _ _) _⟩
    rw [he, hn, hm]
    simp
  · obtain rfl : n = 0 := by omega
    obtain rfl : m = 0 := by omega
    refine (Try.slices_Equal_int_empty p q c 0 d w (by omega)).mono fun e w' ⟨he, hw⟩ => ⟨?_, by rw [hw]; exact Below.refl _ _⟩
    rw [he]
    rfl

set_option maxRecDepth 200000 in
set_option maxHeartbeats 4000000 in
theorem sameM_any {w : World} {m : Ms} {ve vv vd ue uv ud : Value} (h : MsV w m ve vv vd) (h2 : MsV w m ue uv ud) : Calls Try.prog 16 #[msA m ve vv vd, msA m ue uv ud] w fun e w' => e = .returned (.bool true) ∧ Below w.heap.size w w' := by
  obtain ⟨pe, ne, ce, rfl⟩ := h.es.sl
  obtain ⟨pv, nv, cv, rfl⟩ := h.vs.sl
  obtain ⟨pd, nd, cd, rfl⟩ := h.d.sl
  obtain ⟨pe2, ne2, ce2, rfl⟩ := h2.es.sl
  obtain ⟨pv2, nv2, cv2, rfl⟩ := h2.vs.sl
  obtain ⟨pd2, nd2, cd2, rfl⟩ := h2.d.sl
  obtain ⟨k, f, t, tm, ix, lt, cm, rd, ys, dn, es, vs, d⟩ := m
  unfold msA
  dsimp only
  have b1 := (Below.refl w.heap.size w).alloc (Nat.le_refl _) (.cells #[.int .i64 k, .int .i64 f, .int .i64 t, .int .i64 tm, .int .i64 ix, .int .i64 lt, .int .i64 cm, .int .i64 rd, .bool ys, .bool dn, .slice pe ne ce, .slice pv nv cv, .slice pd nd cd] 26)
  have b2 := b1.alloc b1.size (.cells #[.int .i64 k, .int .i64 f, .int .i64 t, .int .i64 tm, .int .i64 ix, .int .i64 lt, .int .i64 cm, .int .i64 rd, .bool ys, .bool dn, .slice pe2 ne2 ce2, .slice pv2 nv2 cv2, .slice pd2 nd2 cd2] 26)
  have HSA := hide (fun W (hW : Below w.heap.size w W) => same_any (h.es.below hW) (h2.es.below hW))
  have HEQ := hide (fun W (hW : Below w.heap.size w W) => eqInts_any (h.vs.below hW) (h2.vs.below hW))
  have HBE := hide (fun W (hW : Below w.heap.size w W) => equal_any (h.d.below hW) (h2.d.below hW))
  have HB2 := hide b2
  have hx1 := (Box13.new w 26 (.int .i64 k) (.int .i64 f) (.int .i64 t) (.int .i64 tm) (.int .i64 ix) (.int .i64 lt) (.int .i64 cm) (.int .i64 rd) (.bool ys) (.bool dn) (.slice pe ne ce) (.slice pv nv cv) (.slice pd nd cd)).below ((Below.refl _ _).alloc (Nat.le_refl _) (.cells #[.int .i64 k, .int .i64 f, .int .i64 t, .int .i64 tm, .int .i64 ix, .int .i64 lt, .int .i64 cm, .int .i64 rd, .bool ys, .bool dn, .slice pe2 ne2 ce2, .slice pv2 nv2 cv2, .slice pd2 nd2 cd2] 26))
  have hx2 := Box13.new (w.alloc (.cells #[.int .i64 k, .int .i64 f, .int .i64 t, .int .i64 tm, .int .i64 ix, .int .i64 lt, .int .i64 cm, .int .i64 rd, .bool ys, .bool dn, .slice pe ne ce, .slice pv nv cv, .slice pd nd cd] 26)) 26 (.int .i64 k) (.int .i64 f) (.int .i64 t) (.int .i64 tm) (.int .i64 ix) (.int .i64 lt) (.int .i64 cm) (.int .i64 rd) (.bool ys) (.bool dn) (.slice pe2 ne2 ce2) (.slice pv2 nv2 cv2) (.slice pd2 nd2 cd2)
  have HX1 := hide hx1
  have HX2 := hide hx2
  have hzz : (w.alloc (.cells #[.int .i64 k, .int .i64 f, .int .i64 t, .int .i64 tm, .int .i64 ix, .int .i64 lt, .int .i64 cm, .int .i64 rd, .bool ys, .bool dn, .slice pe ne ce, .slice pv nv cv, .slice pd nd cd] 26)).heap.size = w.heap.size + 1 := by simp
  rw [hzz] at HX2
  clear h h2 b1 b2 hx1 hx2 hzz
  go_enter Try.func16, Try.ntmps16
  go_wp2_with fail
  refine (HSA.out _ HB2.out).mono ?_
  rintro e w3 ⟨rfl, hb3⟩
  have HB3 := hide (HB2.out.trans (hb3.mono HB2.out.size))
  obtain ⟨y0, y1, y2, y3, y4, y5, y6, y7, y8, y9, y10, y11, y12⟩ := HX1.out.below hb3
  obtain ⟨z0, z1, z2, z3, z4, z5, z6, z7, z8, z9, z10, z11, z12⟩ := HX2.out.below hb3
  clear hb3
  go_wp2_with fail
  refine (HEQ.out _ HB3.out).mono ?_
  rintro e w4 ⟨rfl, hb4⟩
  have HB4 := hide (HB3.out.trans (hb4.mono HB3.out.size))
  have k12 := (hb4.cell (lt_of_cell y12)).trans y12
  have l12 := (hb4.cell (lt_of_cell z12)).trans z12
  clear hb4
  go_wp2_with fail
  refine (HBE.out _ HB4.out).mono ?_
  rintro e w5 ⟨rfl, rfl⟩
  go_wp2
  go_ret
  exact ⟨ret_b (by simp), HB4.out⟩
/-- A vote. -/
def voteM (n : Int) : Ms := ⟨1, 6, n, 1, 0, 0, 0, 0, false, false, [], [], []⟩
theorem voteM_v (n : Int) (hn : fits n) (w : World) : MsV w (voteM n) (.slice none 0 0) (.slice none 0 0) (.slice none 0 0) := ⟨Ens.nil _, Ns.nil _, By.nil _, by
  intro x hx
  simp [voteM, Ms.nums] at hx
  unfold fits at *
  omega⟩
set_option maxRecDepth 200000 in
set_option maxHeartbeats 4000000 in
theorem vote_any (n : Int) (w : World) : Calls Try.prog 40 #[.int .i64 n] w fun e w' => e = .returned (msA (voteM n) (.slice none 0 0) (.slice none 0 0) (.slice none 0 0)) ∧ Below w.heap.size w w' := by
  obtain ⟨X, hX⟩ : ∃ X, w.alloc (.cells #[.int .i64 0, .int .i64 0, .int .i64 0, .int .i64 0, .int .i64 0, .int .i64 0, .int .i64 0, .int .i64 0, .bool false, .bool false, .slice none 0 0, .slice none 0 0, .slice none 0 0] 26) = X := ⟨_, rfl⟩
  have hrX : X.heap[w.heap.size]? = some (.cells #[.int .i64 0, .int .i64 0, .int .i64 0, .int .i64 0, .int .i64 0, .int .i64 0, .int .i64 0, .int .i64 0, .bool false, .bool false, .slice none 0 0, .slice none 0 0, .slice none 0 0] 26 (0, 0)) := by rw [← hX]; exact heap_alloc_new w _
  have hbX : Below w.heap.size w X := by rw [← hX]; exact (Below.refl _ _).alloc (Nat.le_refl _) _
  have HBX := hide hbX
  have m0 := cell_of_row X w.heap.size 0 _ 26 (0, 0) hrX
  have mf0 := frozen_of_row X w.heap.size 0 _ 26 hrX
  have m1 := cell_of_row X w.heap.size 1 _ 26 (0, 0) hrX
  have mf1 := frozen_of_row X w.heap.size 1 _ 26 hrX
  have m2 := cell_of_row X w.heap.size 2 _ 26 (0, 0) hrX
  have mf2 := frozen_of_row X w.heap.size 2 _ 26 hrX
  have m3 := cell_of_row X w.heap.size 3 _ 26 (0, 0) hrX
  have mf3 := frozen_of_row X w.heap.size 3 _ 26 hrX
  have m4 := cell_of_row X w.heap.size 4 _ 26 (0, 0) hrX
  have mf4 := frozen_of_row X w.heap.size 4 _ 26 hrX
  have m5 := cell_of_row X w.heap.size 5 _ 26 (0, 0) hrX
  have mf5 := frozen_of_row X w.heap.size 5 _ 26 hrX
  have m6 := cell_of_row X w.heap.size 6 _ 26 (0, 0) hrX
  have mf6 := frozen_of_row X w.heap.size 6 _ 26 hrX
  have m7 := cell_of_row X w.heap.size 7 _ 26 (0, 0) hrX
  have mf7 := frozen_of_row X w.heap.size 7 _ 26 hrX
  have m8 := cell_of_row X w.heap.size 8 _ 26 (0, 0) hrX
  have mf8 := frozen_of_row X w.heap.size 8 _ 26 hrX
  have m9 := cell_of_row X w.heap.size 9 _ 26 (0, 0) hrX
  have mf9 := frozen_of_row X w.heap.size 9 _ 26 hrX
  have m10 := cell_of_row X w.heap.size 10 _ 26 (0, 0) hrX
  have mf10 := frozen_of_row X w.heap.size 10 _ 26 hrX
  have m11 := cell_of_row X w.heap.size 11 _ 26 (0, 0) hrX
  have mf11 := frozen_of_row X w.heap.size 11 _ 26 hrX
  have m12 := cell_of_row X w.heap.size 12 _ 26 (0, 0) hrX
  have mf12 := frozen_of_row X w.heap.size 12 _ 26 hrX
  simp only [List.getElem?_toArray, List.getElem?_cons_succ, List.getElem?_cons_zero] at m0 m1 m2 m3 m4 m5 m6 m7 m8 m9 m10 m11 m12
  have RVH := hide hrX
  clear hrX hbX
  go_enter Try.func40, Try.ntmps40
  go_wp2
  have hs9 := set13 X w.heap.size 26 _ _ _ _ _ _ _ _ _ _ _ _ _ (.int .i64 1) (.int .i64 6) (.int .i64 n) (.int .i64 1) (.int .i64 0) (.int .i64 0) (.int .i64 0) (.int .i64 0) (.bool false) (.bool false) (.slice none 0 0) (.slice none 0 0) (.slice none 0 0) RVH.out
  have hG9 : X.grownBy (((((((((((((X.setCell ⟨w.heap.size, 0, none⟩ (.int .i64 1)).setCell ⟨w.heap.size, 1, none⟩ (.int .i64 6)).setCell ⟨w.heap.size, 2, none⟩ (.int .i64 n)).setCell ⟨w.heap.size, 3, none⟩ (.int .i64 1)).setCell ⟨w.heap.size, 4, none⟩ (.int .i64 0)).setCell ⟨w.heap.size, 5, none⟩ (.int .i64 0)).setCell ⟨w.heap.size, 6, none⟩ (.int .i64 0)).setCell ⟨w.heap.size, 7, none⟩ (.int .i64 0)).setCell ⟨w.heap.size, 8, none⟩ (.bool false)).setCell ⟨w.heap.size, 9, none⟩ (.bool false)).setCell ⟨w.heap.size, 10, none⟩ (.slice none 0 0)).setCell ⟨w.heap.size, 11, none⟩ (.slice none 0 0)).setCell ⟨w.heap.size, 12, none⟩ (.slice none 0 0)) (some w.heap.size) := gtrans (gtrans (gtrans (gtrans (gtrans (gtrans (gtrans (gtrans (gtrans (gtrans (gtrans (gtrans (grown_set X w.heap.size 0 (.int .i64 1)) (grown_set _ w.heap.size 1 (.int .i64 6))) (grown_set _ w.heap.size 2 (.int .i64 n))) (grown_set _ w.heap.size 3 (.int .i64 1))) (grown_set _ w.heap.size 4 (.int .i64 0))) (grown_set _ w.heap.size 5 (.int .i64 0))) (grown_set _ w.heap.size 6 (.int .i64 0))) (grown_set _ w.heap.size 7 (.int .i64 0))) (grown_set _ w.heap.size 8 (.bool false))) (grown_set _ w.heap.size 9 (.bool false))) (grown_set _ w.heap.size 10 (.slice none 0 0))) (grown_set _ w.heap.size 11 (.slice none 0 0))) (grown_set _ w.heap.size 12 (.slice none 0 0))
  obtain ⟨W9, hW9⟩ : ∃ W9, (((((((((((((X.setCell ⟨w.heap.size, 0, none⟩ (.int .i64 1)).setCell ⟨w.heap.size, 1, none⟩ (.int .i64 6)).setCell ⟨w.heap.size, 2, none⟩ (.int .i64 n)).setCell ⟨w.heap.size, 3, none⟩ (.int .i64 1)).setCell ⟨w.heap.size, 4, none⟩ (.int .i64 0)).setCell ⟨w.heap.size, 5, none⟩ (.int .i64 0)).setCell ⟨w.heap.size, 6, none⟩ (.int .i64 0)).setCell ⟨w.heap.size, 7, none⟩ (.int .i64 0)).setCell ⟨w.heap.size, 8, none⟩ (.bool false)).setCell ⟨w.heap.size, 9, none⟩ (.bool false)).setCell ⟨w.heap.size, 10, none⟩ (.slice none 0 0)).setCell ⟨w.heap.size, 11, none⟩ (.slice none 0 0)).setCell ⟨w.heap.size, 12, none⟩ (.slice none 0 0)) = W9 := ⟨_, rfl⟩
  rw [hW9] at hs9 hG9 ⊢
  clear hW9
  have n0_ := cell_of_row W9 w.heap.size 0 _ 26 (0, 0) hs9
  have n1_ := cell_of_row W9 w.heap.size 1 _ 26 (0, 0) hs9
  have n2_ := cell_of_row W9 w.heap.size 2 _ 26 (0, 0) hs9
  have n3_ := cell_of_row W9 w.heap.size 3 _ 26 (0, 0) hs9
  have n4_ := cell_of_row W9 w.heap.size 4 _ 26 (0, 0) hs9
  have n5_ := cell_of_row W9 w.heap.size 5 _ 26 (0, 0) hs9
  have n6_ := cell_of_row W9 w.heap.size 6 _ 26 (0, 0) hs9
  have n7_ := cell_of_row W9 w.heap.size 7 _ 26 (0, 0) hs9
  have n8_ := cell_of_row W9 w.heap.size 8 _ 26 (0, 0) hs9
  have n9_ := cell_of_row W9 w.heap.size 9 _ 26 (0, 0) hs9
  have n10_ := cell_of_row W9 w.heap.size 10 _ 26 (0, 0) hs9
  have n11_ := cell_of_row W9 w.heap.size 11 _ 26 (0, 0) hs9
  have n12_ := cell_of_row W9 w.heap.size 12 _ 26 (0, 0) hs9
  simp only [List.getElem?_toArray, List.getElem?_cons_succ, List.getElem?_cons_zero] at n0_ n1_ n2_ n3_ n4_ n5_ n6_ n7_ n8_ n9_ n10_ n11_ n12_
  have hz9 : w.heap.size < W9.heap.size := lt_of_cell n0_
  refine bodyPost_ret (v := .agg #[.int .i64 1, .int .i64 6, .int .i64 n, .int .i64 1, .int .i64 0, .int .i64 0, .int .i64 0, .int .i64 0, .bool false, .bool false, .slice none 0 0, .slice none 0 0, .slice none 0 0]) (by simp [results, Try.results40, go_sem, n0_, n1_, n2_, n3_, n4_, n5_, n6_, n7_, n8_, n9_, n10_, n11_, n12_, hz9]) rfl ⟨rfl, HBX.out.grown hG9 HBX.out.size fun k hk => by injection hk with hk; omega⟩
end Go.Proofs.Ytiiollgipfggmaa
