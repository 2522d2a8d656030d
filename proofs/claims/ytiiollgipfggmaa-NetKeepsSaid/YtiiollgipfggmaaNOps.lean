/- Peek, Lose of a bag. -/
import Derived.Test.YtiiollgipfggmaaNFind
import Derived.Test.YtiiollgipfggmaaNPut
import Derived.Deep.RegionHeld3
namespace Go.Proofs.Ytiiollgipfggmaa
set_option linter.unusedVariables false
set_option linter.unusedSimpArgs false
open Go.RowKit

theorem MsO.chg {B : Nat} {w w' : World} {m : Ms} {ve vv vd : Value} {S : Nat → Prop} (h : MsO B w m ve vv vd) (hc : Chg w w' S) (hS : ∀ k, S k → k < B) : MsO B w' m ve vv vd := ⟨h.es.chg hc hS, h.vs.chg hc hS, h.d.chg hc hS, h.fits⟩
theorem MsO.zero (B : Nat) (w : World) : MsO B w ms0 (.slice none 0 0) (.slice none 0 0) (.slice none 0 0) := ⟨⟨[], OwnE.nil _ _, rfl, by simp⟩, OwnN.nil _ _, Own.nil _ _, ms0_fits⟩
/-- What Peek says. -/
def PeekPost (w : World) (q : Ms × Int) (e : Ending) (w' : World) : Prop := ∃ ve vv vd, e = .returned (.tuple #[msA q.1 ve vv vd, .int .i64 q.2]) ∧ MsO w.heap.size w' q.1 ve vv vd ∧ Below w.heap.size w w'
def peekI (x : Bg) (id : Int) : Ms × Int := match findI x id with | none => (ms0, 130) | some k => match x.ps[k]? with | none => (ms0, 130) | some y => (y.2, 0)
theorem findI_lt {x : Bg} {id : Int} {k : Nat} (h : findI x id = some k) : k < x.ps.length := (List.findIdx?_eq_some_iff_getElem.1 h).1

set_option maxRecDepth 200000 in
set_option maxHeartbeats 4000000 in
theorem peek_bag {B : Nat} {w : World} {g : Nat} {v : Value} {x : Bg} (h : BgIs B w g v x) (id : Int) : Calls Try.prog 22 #[.pointer (some ⟨g, 0, none⟩), .int .i64 id] w (PeekPost w (peekI x id)) := by
  obtain ⟨X, hX⟩ : ∃ X, w.alloc (.cells #[.int .i64 0, .int .i64 0, .int .i64 0, .int .i64 0, .int .i64 0, .int .i64 0, .int .i64 0, .int .i64 0, .bool false, .bool false, .slice none 0 0, .slice none 0 0, .slice none 0 0] 26) = X := ⟨_, rfl⟩
  have hrX : X.heap[w.heap.size]? = some (.cells #[.int .i64 0, .int .i64 0, .int .i64 0, .int .i64 0, .int .i64 0, .int .i64 0, .int .i64 0, .int .i64 0, .bool false, .bool false, .slice none 0 0, .slice none 0 0, .slice none 0 0] 26 (0, 0)) := by rw [← hX]; exact heap_alloc_new w _
  have hbX : Below w.heap.size w X := by rw [← hX]; exact (Below.refl _ _).alloc (Nat.le_refl _) _
  have hwX : w.heap.size < X.heap.size := (Array.getElem?_eq_some_iff.1 hrX).1
  have h1 := h.below hbX
  have HF := hide (find_bag h1 id)
  have HH := hide h1
  have HRX := hide hrX
  have HBX := hide hbX
  have HWX := hide hwX
  have HX := hide hX
  clear h h1 hrX hbX hwX hX
  unfold findR at HF
  unfold peekI
  cases hf : findI x id with
  | none =>
    rw [hf] at HF
    dsimp only at HF ⊢
    clear hf
    go_enter Try.func22, Try.ntmps22
    go_wp2_with fail
    rw [HX.out]
    refine HF.out.mono ?_
    rintro e w2 ⟨rfl, hb2⟩
    have hR2 := (hb2.block _ HWX.out).trans HRX.out
    have HB2 := hide (HBX.out.trans (hb2.mono HBX.out.size))
    have m0 := cell_of_row w2 w.heap.size 0 _ 26 (0, 0) hR2
    have mf0 := frozen_of_row w2 w.heap.size 0 _ 26 hR2
    have m1 := cell_of_row w2 w.heap.size 1 _ 26 (0, 0) hR2
    have mf1 := frozen_of_row w2 w.heap.size 1 _ 26 hR2
    have m2 := cell_of_row w2 w.heap.size 2 _ 26 (0, 0) hR2
    have mf2 := frozen_of_row w2 w.heap.size 2 _ 26 hR2
    have m3 := cell_of_row w2 w.heap.size 3 _ 26 (0, 0) hR2
    have mf3 := frozen_of_row w2 w.heap.size 3 _ 26 hR2
    have m4 := cell_of_row w2 w.heap.size 4 _ 26 (0, 0) hR2
    have mf4 := frozen_of_row w2 w.heap.size 4 _ 26 hR2
    have m5 := cell_of_row w2 w.heap.size 5 _ 26 (0, 0) hR2
    have mf5 := frozen_of_row w2 w.heap.size 5 _ 26 hR2
    have m6 := cell_of_row w2 w.heap.size 6 _ 26 (0, 0) hR2
    have mf6 := frozen_of_row w2 w.heap.size 6 _ 26 hR2
    have m7 := cell_of_row w2 w.heap.size 7 _ 26 (0, 0) hR2
    have mf7 := frozen_of_row w2 w.heap.size 7 _ 26 hR2
    have m8 := cell_of_row w2 w.heap.size 8 _ 26 (0, 0) hR2
    have mf8 := frozen_of_row w2 w.heap.size 8 _ 26 hR2
    have m9 := cell_of_row w2 w.heap.size 9 _ 26 (0, 0) hR2
    have mf9 := frozen_of_row w2 w.heap.size 9 _ 26 hR2
    have m10 := cell_of_row w2 w.heap.size 10 _ 26 (0, 0) hR2
    have mf10 := frozen_of_row w2 w.heap.size 10 _ 26 hR2
    have m11 := cell_of_row w2 w.heap.size 11 _ 26 (0, 0) hR2
    have mf11 := frozen_of_row w2 w.heap.size 11 _ 26 hR2
    have m12 := cell_of_row w2 w.heap.size 12 _ 26 (0, 0) hR2
    have mf12 := frozen_of_row w2 w.heap.size 12 _ 26 hR2
    simp only [List.getElem?_toArray, List.getElem?_cons_succ, List.getElem?_cons_zero] at m0 m1 m2 m3 m4 m5 m6 m7 m8 m9 m10 m11 m12
    have RVH := hide hR2
    clear hR2 hb2
    go_wp2
    have hs9 := set13 w2 w.heap.size 26 _ _ _ _ _ _ _ _ _ _ _ _ _ (.int .i64 0) (.int .i64 0) (.int .i64 0) (.int .i64 0) (.int .i64 0) (.int .i64 0) (.int .i64 0) (.int .i64 0) (.bool false) (.bool false) (.slice none 0 0) (.slice none 0 0) (.slice none 0 0) RVH.out
    have hG9 : w2.grownBy (((((((((((((w2.setCell ⟨w.heap.size, 0, none⟩ (.int .i64 0)).setCell ⟨w.heap.size, 1, none⟩ (.int .i64 0)).setCell ⟨w.heap.size, 2, none⟩ (.int .i64 0)).setCell ⟨w.heap.size, 3, none⟩ (.int .i64 0)).setCell ⟨w.heap.size, 4, none⟩ (.int .i64 0)).setCell ⟨w.heap.size, 5, none⟩ (.int .i64 0)).setCell ⟨w.heap.size, 6, none⟩ (.int .i64 0)).setCell ⟨w.heap.size, 7, none⟩ (.int .i64 0)).setCell ⟨w.heap.size, 8, none⟩ (.bool false)).setCell ⟨w.heap.size, 9, none⟩ (.bool false)).setCell ⟨w.heap.size, 10, none⟩ (.slice none 0 0)).setCell ⟨w.heap.size, 11, none⟩ (.slice none 0 0)).setCell ⟨w.heap.size, 12, none⟩ (.slice none 0 0)) (some w.heap.size) := gtrans (gtrans (gtrans (gtrans (gtrans (gtrans (gtrans (gtrans (gtrans (gtrans (gtrans (gtrans (grown_set w2 w.heap.size 0 (.int .i64 0)) (grown_set _ w.heap.size 1 (.int .i64 0))) (grown_set _ w.heap.size 2 (.int .i64 0))) (grown_set _ w.heap.size 3 (.int .i64 0))) (grown_set _ w.heap.size 4 (.int .i64 0))) (grown_set _ w.heap.size 5 (.int .i64 0))) (grown_set _ w.heap.size 6 (.int .i64 0))) (grown_set _ w.heap.size 7 (.int .i64 0))) (grown_set _ w.heap.size 8 (.bool false))) (grown_set _ w.heap.size 9 (.bool false))) (grown_set _ w.heap.size 10 (.slice none 0 0))) (grown_set _ w.heap.size 11 (.slice none 0 0))) (grown_set _ w.heap.size 12 (.slice none 0 0))
    obtain ⟨W9, hW9⟩ : ∃ W9, (((((((((((((w2.setCell ⟨w.heap.size, 0, none⟩ (.int .i64 0)).setCell ⟨w.heap.size, 1, none⟩ (.int .i64 0)).setCell ⟨w.heap.size, 2, none⟩ (.int .i64 0)).setCell ⟨w.heap.size, 3, none⟩ (.int .i64 0)).setCell ⟨w.heap.size, 4, none⟩ (.int .i64 0)).setCell ⟨w.heap.size, 5, none⟩ (.int .i64 0)).setCell ⟨w.heap.size, 6, none⟩ (.int .i64 0)).setCell ⟨w.heap.size, 7, none⟩ (.int .i64 0)).setCell ⟨w.heap.size, 8, none⟩ (.bool false)).setCell ⟨w.heap.size, 9, none⟩ (.bool false)).setCell ⟨w.heap.size, 10, none⟩ (.slice none 0 0)).setCell ⟨w.heap.size, 11, none⟩ (.slice none 0 0)).setCell ⟨w.heap.size, 12, none⟩ (.slice none 0 0)) = W9 := ⟨_, rfl⟩
    rw [hW9] at hs9 hG9 ⊢
    clear hW9
    have n0_ := cell_of_row W9 w.heap.size 0 _ 26 (0, 0) hs9
    have n1_ := cell_of_row W9 w.heap.size 1 _ 26 (0, 0) hs9
    have n2_ := cell_of_row W9 w.heap.size 2 _ 26 (0, 0) hs9
    have n3_ := cell_of_row W9 w.heap.size 3 _ 26 (0, 0) hs9
    have n4_ := cell_of_row W9 w.heap.size 4 _ 26 (0, 0) hs9
    have n5_ := cell_of_row W9 w.heap.size 5 _ 26 (0, 0) hs9
    have n6_ := cell_of_row W9 w.heap.size 6 _ 26 (0, 0) hs9
    have n7_ := cell_of_row W9 w.heap.size 7 _ 26 (0, 0) hs9
    have n8_ := cell_of_row W9 w.heap.size 8 _ 26 (0, 0) hs9
    have n9_ := cell_of_row W9 w.heap.size 9 _ 26 (0, 0) hs9
    have n10_ := cell_of_row W9 w.heap.size 10 _ 26 (0, 0) hs9
    have n11_ := cell_of_row W9 w.heap.size 11 _ 26 (0, 0) hs9
    have n12_ := cell_of_row W9 w.heap.size 12 _ 26 (0, 0) hs9
    simp only [List.getElem?_toArray, List.getElem?_cons_succ, List.getElem?_cons_zero] at n0_ n1_ n2_ n3_ n4_ n5_ n6_ n7_ n8_ n9_ n10_ n11_ n12_
    have hz9 : w.heap.size < W9.heap.size := lt_of_cell n0_
    refine bodyPost_ret (v := .tuple #[.agg #[.int .i64 0, .int .i64 0, .int .i64 0, .int .i64 0, .int .i64 0, .int .i64 0, .int .i64 0, .int .i64 0, .bool false, .bool false, .slice none 0 0, .slice none 0 0, .slice none 0 0], .int .i64 130]) (by simp [results, Try.results22, go_sem, n0_, n1_, n2_, n3_, n4_, n5_, n6_, n7_, n8_, n9_, n10_, n11_, n12_, hz9]) rfl ⟨.slice none 0 0, .slice none 0 0, .slice none 0 0, rfl, MsO.zero _ _, HB2.out.grown hG9 HB2.out.size fun k hk => by injection hk with hk; omega⟩
  | some k =>
    rw [hf] at HF
    have hkx := findI_lt hf
    obtain ⟨y, hy⟩ : ∃ y, x.ps[k]? = some y := ⟨_, List.getElem?_eq_getElem hkx⟩
    dsimp only at HF ⊢
    rw [hy]
    dsimp only
    obtain ⟨E, hE, hD⟩ := HH.out.row
    have hEk : k < E.length := by rw [hD.1]; exact hkx
    obtain ⟨pr, cr, hve, hrc, hrm⟩ := hE.sl
    have HC2 := HH.out.c2
    rw [hve] at hE HC2
    obtain ⟨n, hn⟩ : ∃ n, E.length = n := ⟨_, rfl⟩
    rw [hn] at hE HC2 hEk
    obtain ⟨e0, he0⟩ : ∃ e, E[k]? = some e := ⟨_, List.getElem?_eq_getElem (by rw [hn]; exact hEk)⟩
    obtain ⟨_, hown, _⟩ := hD.2 k e0 y he0 hy
    obtain ⟨gr, rfl, _, hcell⟩ := hE.at_ (by omega)
    have hc1 := hcell k e0 he0 1 _ rfl
    have hn256 : n ≤ 256 := by have := HH.out.ok.few; have := hD.1; omega
    obtain ⟨ei, pq, nq, cq⟩ := e0
    dsimp only at hc1 hown
    have HIN := hide (HH.out.ok.inn y (List.mem_of_getElem? hy))
    have hk0 : (0 : Int) ≤ (k : Int) := by omega
    have hk1 : (k : Int) < (n : Int) := by omega
    have HOW := hide hown
    have HC1 := hide hc1
    have HC22 := hide HC2
    obtain ⟨m, hm⟩ : ∃ m, y.2 = m := ⟨_, rfl⟩
    rw [hm] at HIN HOW ⊢
    clear hf hkx hy hE hD hrc hrm hve hn he0 hown hcell hc1 HC2 hm hEk
    go_enter Try.func22, Try.ntmps22
    go_wp2_with fail
    rw [HX.out]
    refine HF.out.mono ?_
    rintro e w2 ⟨rfl, hb2⟩
    have hR2 := (hb2.block _ HWX.out).trans HRX.out
    have HR2 := hide hR2
    have HB2 := hide (HBX.out.trans (hb2.mono HBX.out.size))
    have hwz : w.heap.size < w2.heap.size := by have := HWX.out; have := hb2.size; omega
    have k2 := (hb2.cell (lt_of_cell HC22.out)).trans HC22.out
    have k1 := (hb2.cell (lt_of_cell HC1.out)).trans HC1.out
    have HRD := hide (read_any (HOW.out.below hb2).by_ (by have := HIN.out.len; omega))
    rw [HIN.out.read] at HRD
    clear hb2 hR2
    go_wp2_with fail
    refine HRD.out.mono ?_
    rintro e w3 ⟨ve, vv, vd, rfl, hmo, hb3⟩
    have hR3 := (hb3.block _ hwz).trans HR2.out
    have HB3 := hide (HB2.out.trans (hb3.mono HB2.out.size))
    have HMO := hide (hmo.mono HB2.out.size)
    obtain ⟨pe, ne, ce, rfl⟩ := hmo.es.ens.sl
    obtain ⟨pv, nv, cv, rfl⟩ := hmo.vs.ns.sl
    obtain ⟨pd, nd, cd, rfl⟩ := hmo.d.by_.sl
    have hHM := hmo
    unfold msA
    have m0 := cell_of_row w3 w.heap.size 0 _ 26 (0, 0) hR3
    have mf0 := frozen_of_row w3 w.heap.size 0 _ 26 hR3
    have m1 := cell_of_row w3 w.heap.size 1 _ 26 (0, 0) hR3
    have mf1 := frozen_of_row w3 w.heap.size 1 _ 26 hR3
    have m2 := cell_of_row w3 w.heap.size 2 _ 26 (0, 0) hR3
    have mf2 := frozen_of_row w3 w.heap.size 2 _ 26 hR3
    have m3 := cell_of_row w3 w.heap.size 3 _ 26 (0, 0) hR3
    have mf3 := frozen_of_row w3 w.heap.size 3 _ 26 hR3
    have m4 := cell_of_row w3 w.heap.size 4 _ 26 (0, 0) hR3
    have mf4 := frozen_of_row w3 w.heap.size 4 _ 26 hR3
    have m5 := cell_of_row w3 w.heap.size 5 _ 26 (0, 0) hR3
    have mf5 := frozen_of_row w3 w.heap.size 5 _ 26 hR3
    have m6 := cell_of_row w3 w.heap.size 6 _ 26 (0, 0) hR3
    have mf6 := frozen_of_row w3 w.heap.size 6 _ 26 hR3
    have m7 := cell_of_row w3 w.heap.size 7 _ 26 (0, 0) hR3
    have mf7 := frozen_of_row w3 w.heap.size 7 _ 26 hR3
    have m8 := cell_of_row w3 w.heap.size 8 _ 26 (0, 0) hR3
    have mf8 := frozen_of_row w3 w.heap.size 8 _ 26 hR3
    have m9 := cell_of_row w3 w.heap.size 9 _ 26 (0, 0) hR3
    have mf9 := frozen_of_row w3 w.heap.size 9 _ 26 hR3
    have m10 := cell_of_row w3 w.heap.size 10 _ 26 (0, 0) hR3
    have mf10 := frozen_of_row w3 w.heap.size 10 _ 26 hR3
    have m11 := cell_of_row w3 w.heap.size 11 _ 26 (0, 0) hR3
    have mf11 := frozen_of_row w3 w.heap.size 11 _ 26 hR3
    have m12 := cell_of_row w3 w.heap.size 12 _ 26 (0, 0) hR3
    have mf12 := frozen_of_row w3 w.heap.size 12 _ 26 hR3
    simp only [List.getElem?_toArray, List.getElem?_cons_succ, List.getElem?_cons_zero] at m0 m1 m2 m3 m4 m5 m6 m7 m8 m9 m10 m11 m12
    have RVH := hide hR3
    have HMO2 := hide hmo
    clear hR3 hb3 hmo hHM HRD
    go_wp2
    have hs9 := set13 w3 w.heap.size 26 _ _ _ _ _ _ _ _ _ _ _ _ _ (.int .i64 m.k) (.int .i64 m.f) (.int .i64 m.t) (.int .i64 m.tm) (.int .i64 m.ix) (.int .i64 m.lt) (.int .i64 m.cm) (.int .i64 m.rd) (.bool m.ys) (.bool m.dn) (.slice pe ne ce) (.slice pv nv cv) (.slice pd nd cd) RVH.out
    have hG9 : w3.grownBy (((((((((((((w3.setCell ⟨w.heap.size, 0, none⟩ (.int .i64 m.k)).setCell ⟨w.heap.size, 1, none⟩ (.int .i64 m.f)).setCell ⟨w.heap.size, 2, none⟩ (.int .i64 m.t)).setCell ⟨w.heap.size, 3, none⟩ (.int .i64 m.tm)).setCell ⟨w.heap.size, 4, none⟩ (.int .i64 m.ix)).setCell ⟨w.heap.size, 5, none⟩ (.int .i64 m.lt)).setCell ⟨w.heap.size, 6, none⟩ (.int .i64 m.cm)).setCell ⟨w.heap.size, 7, none⟩ (.int .i64 m.rd)).setCell ⟨w.heap.size, 8, none⟩ (.bool m.ys)).setCell ⟨w.heap.size, 9, none⟩ (.bool m.dn)).setCell ⟨w.heap.size, 10, none⟩ (.slice pe ne ce)).setCell ⟨w.heap.size, 11, none⟩ (.slice pv nv cv)).setCell ⟨w.heap.size, 12, none⟩ (.slice pd nd cd)) (some w.heap.size) := gtrans (gtrans (gtrans (gtrans (gtrans (gtrans (gtrans (gtrans (gtrans (gtrans (gtrans (gtrans (grown_set w3 w.heap.size 0 (.int .i64 m.k)) (grown_set _ w.heap.size 1 (.int .i64 m.f))) (grown_set _ w.heap.size 2 (.int .i64 m.t))) (grown_set _ w.heap.size 3 (.int .i64 m.tm))) (grown_set _ w.heap.size 4 (.int .i64 m.ix))) (grown_set _ w.heap.size 5 (.int .i64 m.lt))) (grown_set _ w.heap.size 6 (.int .i64 m.cm))) (grown_set _ w.heap.size 7 (.int .i64 m.rd))) (grown_set _ w.heap.size 8 (.bool m.ys))) (grown_set _ w.heap.size 9 (.bool m.dn))) (grown_set _ w.heap.size 10 (.slice pe ne ce))) (grown_set _ w.heap.size 11 (.slice pv nv cv))) (grown_set _ w.heap.size 12 (.slice pd nd cd))
    obtain ⟨W9, hW9⟩ : ∃ W9, (((((((((((((w3.setCell ⟨w.heap.size, 0, none⟩ (.int .i64 m.k)).setCell ⟨w.heap.size, 1, none⟩ (.int .i64 m.f)).setCell ⟨w.heap.size, 2, none⟩ (.int .i64 m.t)).setCell ⟨w.heap.size, 3, none⟩ (.int .i64 m.tm)).setCell ⟨w.heap.size, 4, none⟩ (.int .i64 m.ix)).setCell ⟨w.heap.size, 5, none⟩ (.int .i64 m.lt)).setCell ⟨w.heap.size, 6, none⟩ (.int .i64 m.cm)).setCell ⟨w.heap.size, 7, none⟩ (.int .i64 m.rd)).setCell ⟨w.heap.size, 8, none⟩ (.bool m.ys)).setCell ⟨w.heap.size, 9, none⟩ (.bool m.dn)).setCell ⟨w.heap.size, 10, none⟩ (.slice pe ne ce)).setCell ⟨w.heap.size, 11, none⟩ (.slice pv nv cv)).setCell ⟨w.heap.size, 12, none⟩ (.slice pd nd cd)) = W9 := ⟨_, rfl⟩
    rw [hW9] at hs9 hG9 ⊢
    clear hW9
    have n0_ := cell_of_row W9 w.heap.size 0 _ 26 (0, 0) hs9
    have n1_ := cell_of_row W9 w.heap.size 1 _ 26 (0, 0) hs9
    have n2_ := cell_of_row W9 w.heap.size 2 _ 26 (0, 0) hs9
    have n3_ := cell_of_row W9 w.heap.size 3 _ 26 (0, 0) hs9
    have n4_ := cell_of_row W9 w.heap.size 4 _ 26 (0, 0) hs9
    have n5_ := cell_of_row W9 w.heap.size 5 _ 26 (0, 0) hs9
    have n6_ := cell_of_row W9 w.heap.size 6 _ 26 (0, 0) hs9
    have n7_ := cell_of_row W9 w.heap.size 7 _ 26 (0, 0) hs9
    have n8_ := cell_of_row W9 w.heap.size 8 _ 26 (0, 0) hs9
    have n9_ := cell_of_row W9 w.heap.size 9 _ 26 (0, 0) hs9
    have n10_ := cell_of_row W9 w.heap.size 10 _ 26 (0, 0) hs9
    have n11_ := cell_of_row W9 w.heap.size 11 _ 26 (0, 0) hs9
    have n12_ := cell_of_row W9 w.heap.size 12 _ 26 (0, 0) hs9
    simp only [List.getElem?_toArray, List.getElem?_cons_succ, List.getElem?_cons_zero] at n0_ n1_ n2_ n3_ n4_ n5_ n6_ n7_ n8_ n9_ n10_ n11_ n12_
    have hz9 : w.heap.size < W9.heap.size := lt_of_cell n0_
    refine bodyPost_ret (v := .tuple #[.agg #[.int .i64 m.k, .int .i64 m.f, .int .i64 m.t, .int .i64 m.tm, .int .i64 m.ix, .int .i64 m.lt, .int .i64 m.cm, .int .i64 m.rd, .bool m.ys, .bool m.dn, .slice pe ne ce, .slice pv nv cv, .slice pd nd cd], .int .i64 0]) (by simp [results, Try.results22, go_sem, n0_, n1_, n2_, n3_, n4_, n5_, n6_, n7_, n8_, n9_, n10_, n11_, n12_, hz9]) rfl ⟨.slice pe ne ce, .slice pv nv cv, .slice pd nd cd, rfl, ?_, HB3.out.grown hG9 HB3.out.size fun k hk => by injection hk with hk; omega⟩
    exact (HMO2.out.grownLt hG9 hwz).mono HB2.out.size

/-- All of a bag lies below T. -/
def BgT (B T : Nat) (w : World) (g : Nat) (v : Value) (x : Bg) : Prop := ∃ E, OwnP B w v E ∧ PcD B w g v E x.ps ∧ (∀ e ∈ E, ∀ j, (Value.slice e.p e.n e.c).ownBlock = some j → j < T) ∧ (∀ k, v.ownBlock = some k → k < T) ∧ g < T
theorem BgT.below {B T : Nat} {w w' : World} {g : Nat} {v : Value} {x : Bg} (h : BgT B T w g v x) (hb : Below w.heap.size w w') : BgT B T w' g v x := by
  obtain ⟨E, hE, hD, r⟩ := h
  exact ⟨E, hE.below hb, hD.below hb, r⟩
theorem BgIs.T {B : Nat} {w : World} {g : Nat} {v : Value} {x : Bg} (h : BgIs B w g v x) : BgT B w.heap.size w g v x := by
  obtain ⟨E, hE, hD⟩ := h.row
  refine ⟨E, hE, hD, fun e he j hj => ?_, fun k hk => (hE.lt k hk).2, h.gl⟩
  obtain ⟨k, hk⟩ := List.mem_iff_getElem?.1 he
  have hkl := (List.getElem?_eq_some_iff.1 hk).1
  obtain ⟨_, ho, _⟩ := hD.2 k e _ hk (List.getElem?_eq_getElem (by rw [← hD.1]; exact hkl))
  exact (ho.lt' (payL_pos _) j hj).2
theorem BgIs.keepT {B T r : Nat} {w w' : World} {g : Nat} {v : Value} {x : Bg} (h : BgIs B w g v x) (ht : BgT B T w g v x) (hg : w.grownBy w' (some r)) (hr : T ≤ r) : BgIs B w' g v x := by
  obtain ⟨E, hE, hD, hT, hvT, hgT⟩ := ht
  have hb : w'.heap[g]? = w.heap[g]? := hg.block g h.gl (fun e => by injection e with e; omega)
  have cc := fun i => World.cell?_of_block (w := w) (w' := w') (a := ⟨g, i, none⟩) hb
  have cf := fun i => World.frozen?_of_block (w := w) (w' := w') (a := ⟨g, i, none⟩) hb
  refine ⟨h.hB, (cc 0).trans h.c0, (cc 1).trans h.c1, (cc 2).trans h.c2, fun i => (cf i).trans (h.fr i), ⟨E, hE.grown hg ?_, hD.1, fun k e y a b => ?_⟩, h.vg, h.ok⟩
  · by_cases e : v.ownBlock = none
    · exact .inl e
    · exact .inr fun e2 => by have := hvT r e2; omega
  · obtain ⟨p, q, rr⟩ := hD.2 k e y a b
    exact ⟨p, q.grown hg (.inr fun j hj e2 => by injection e2 with e2; have := hT e (List.mem_of_getElem? a) j hj; omega), rr⟩
theorem BgIs.del {B : Nat} {w w2 : World} {g gb cap n : Nat} {v' : Value} {x : Bg} {E : List Pc} {k : Nat} (h : BgIs B w g (.slice (some ⟨gb, 0, none⟩) n cap) x) (hD : PcD B w g (.slice (some ⟨gb, 0, none⟩) n cap) E x.ps) (hk : k < E.length)
    (hg : w.grownBy w2 (some gb)) (ho : OwnP B w2 v' (E.eraseIdx k)) (hv : v'.ownBlock = some gb) {T : Nat} (hT : ∀ e ∈ E, ∀ j, (Value.slice e.p e.n e.c).ownBlock = some j → j < T) (hbT : gb < T) (hgT : g < T) :
    (BgIs B (w2.setCell ⟨g, 2, none⟩ v') g v' ⟨x.last, x.ps.eraseIdx k⟩ ∧ BgT B T (w2.setCell ⟨g, 2, none⟩ v') g v' ⟨x.last, x.ps.eraseIdx k⟩) ∧ Chg w (w2.setCell ⟨g, 2, none⟩ v') (BgS g (.slice (some ⟨gb, 0, none⟩) n cap)) := by
  have hob : (Value.slice (some ⟨gb, 0, none⟩) n cap).ownBlock = some gb := rfl
  have hvg : gb ≠ g := fun e => h.vg (by rw [hob, e])
  have hc2 : Chg w w2 (BgS g (.slice (some ⟨gb, 0, none⟩) n cap)) := Chg.of_grown hg _ (fun k e => .inl (.inr (by rw [hob]; exact e)))
  have hc3 := hc2.set (g := g) (i := 2) v' (.inl (.inl rfl))
  have hg1 : w2.heap[g]? = w.heap[g]? := hg.block g h.gl (fun e => hvg (by injection e with e; exact e.symm))
  have cc := fun i => World.cell?_of_block (w := w) (w' := w2) (a := ⟨g, i, none⟩) hg1
  have cf := fun i => World.frozen?_of_block (w := w) (w' := w2) (a := ⟨g, i, none⟩) hg1
  have hok := h.ok
  have hO : OwnP B (w2.setCell ⟨g, 2, none⟩ v') v' (E.eraseIdx k) := ho.grown (grown_set _ _ _ _) (.inr (by rw [hv]; intro e; injection e with e; exact hvg e))
  have hP : PcD B (w2.setCell ⟨g, 2, none⟩ v') g v' (E.eraseIdx k) (x.ps.eraseIdx k) := by
    refine ⟨by rw [List.length_eraseIdx_of_lt hk, List.length_eraseIdx_of_lt (by rw [← hD.1]; exact hk), hD.1], fun j e y h1 h2 => ?_⟩
    rw [List.getElem?_eraseIdx] at h1 h2
    have key : ∃ i : Nat, E[i]? = some e ∧ x.ps[i]? = some y := by
      by_cases hj : j < k
      · rw [if_pos hj] at h1 h2
        exact ⟨j, h1, h2⟩
      · rw [if_neg hj] at h1 h2
        exact ⟨j + 1, h1, h2⟩
    obtain ⟨i, a1, a2⟩ := key
    obtain ⟨p, q, r⟩ := hD.2 i e y a1 a2
    exact ⟨p, q.off r hc3, fun j hj => ⟨(r j hj).1, by rw [hv, ← hob]; exact (r j hj).2⟩⟩
  refine ⟨⟨⟨h.hB, ?_, ?_, ?_, fun i => ?_, ⟨E.eraseIdx k, hO, hP⟩, ?_, ?_⟩, ⟨E.eraseIdx k, hO, hP, fun e he => hT e (List.mem_of_mem_eraseIdx he), fun j hj => by rw [hv] at hj; injection hj with hj; omega, hgT⟩⟩, hc3⟩
  · rw [World.cell?_setCell_other _ _ _ _ (by intro e; injection e with _ e; omega), cc]
    exact h.c0
  · rw [World.cell?_setCell_other _ _ _ _ (by intro e; injection e with _ e; omega), cc]
    exact h.c1
  · exact World.cell?_setCell_same _ _ _ ((cc 2).trans h.c2)
  · rw [World.frozen?_setCell, cf]
    exact h.fr i
  · rw [hv]
    intro e
    injection e with e
    exact hvg e
  · have hsub : ∀ y ∈ x.ps.eraseIdx k, y ∈ x.ps := fun y hy => List.mem_of_mem_eraseIdx hy
    exact ⟨fun y hy => hok.inn y (hsub y hy), Nat.le_trans (List.length_eraseIdx_le _ _) hok.few, hok.l0, hok.l1, fun y hy => hok.ids y (hsub y hy)⟩
def loseI (x : Bg) (id : Int) : Bg := match findI x id with | none => x | some k => ⟨x.last, x.ps.eraseIdx k⟩
def hitE (x : Bg) (id : Int) : Int := match findI x id with | none => 130 | some _ => 0
/-- What Lose says. -/
def LosePost (B T : Nat) (w : World) (g : Nat) (v : Value) (x : Bg) (id : Int) (e : Ending) (w' : World) : Prop := e = .returned (.int .i64 (hitE x id)) ∧ ∃ v', (BgIs B w' g v' (loseI x id) ∧ BgT B T w' g v' (loseI x id)) ∧ Chg w w' (BgS g v)

set_option maxRecDepth 200000 in
set_option maxHeartbeats 4000000 in
theorem lose_bag {B T : Nat} {w : World} {g : Nat} {v : Value} {x : Bg} (h : BgIs B w g v x) (hT : BgT B T w g v x) (id : Int) : Calls Try.prog 26 #[.pointer (some ⟨g, 0, none⟩), .int .i64 id] w (LosePost B T w g v x id) := by
  have HF := hide (find_bag h id)
  have HH := hide h
  have HT := hide hT
  clear h hT
  unfold findR at HF
  unfold LosePost hitE loseI
  cases hf : findI x id with
  | none =>
    rw [hf] at HF
    dsimp only at HF ⊢
    clear hf
    go_enter Try.func26, Try.ntmps26
    go_wp2_with fail
    refine HF.out.mono ?_
    rintro e w2 ⟨rfl, hb2⟩
    have HB2 := hide hb2
    clear hb2
    go_wp2
    go_ret
    exact ⟨rfl, v, ⟨HH.out.below HB2.out, HT.out.below HB2.out⟩, Chg.of_below HB2.out _⟩
  | some k =>
    rw [hf] at HF
    have hkx := findI_lt hf
    dsimp only at HF ⊢
    obtain ⟨E, hE, hD, hTT, hvT', hgT'⟩ := HT.out
    have hEk : k < E.length := by rw [hD.1]; exact hkx
    obtain ⟨pr, cr, rfl, hrc, hrm⟩ := hE.sl
    obtain ⟨gr, rfl, _, _⟩ := hE.at_ (by omega)
    have hn256 : (k : Int) < 256 := by have := HH.out.ok.few; omega
    have hk0 : (0 : Int) ≤ (k : Int) := by omega
    have HDL := hide (fun W (hW : Below w.heap.size w W) => deleteP_any (hE.below hW) hEk ⟨hrc, hrm⟩)
    have HBD := hide (fun W w2 v' (hW : Below w.heap.size w W) (hg : W.grownBy w2 (some gr)) (ho : OwnP B w2 v' (E.eraseIdx k)) (hv : v'.ownBlock = some gr) => BgIs.del (HH.out.below hW) (hD.below hW) hEk hg ho hv hTT (hvT' gr rfl) hgT')
    have c2 := HH.out.c2
    have HC2 := hide c2
    obtain ⟨n, hn⟩ : ∃ n, E.length = n := ⟨_, rfl⟩
    rw [hn] at HDL HBD HC2 HH
    have HGL := hide HH.out.gl
    have HFR := hide (HH.out.fr 2)
    have HVG := hide HH.out.vg
    clear hf hkx hE hD hrc hrm hn hEk c2 hvT' hgT' hTT HT
    go_enter Try.func26, Try.ntmps26
    go_wp2_with fail
    refine HF.out.mono ?_
    rintro e w2 ⟨rfl, hb2⟩
    have HB2 := hide hb2
    have k2 := (hb2.cell (lt_of_cell HC2.out)).trans HC2.out
    have HD2 := hide (HDL.out w2 hb2)
    clear hb2
    go_wp2_with fail
    refine HD2.out.mono ?_
    rintro e w3 ⟨rfl, ho3, hg3⟩
    have HR3 := hide (HBD.out w2 w3 _ HB2.out hg3 ho3 rfl)
    have hne : (some gr : Option Nat) ≠ some g := HVG.out
    have q2 : w3.cell? ⟨g, 2, none⟩ = some (.slice (some ⟨gr, 0, none⟩) n cr) := hg3.cell k2 (fun e => hne e.symm)
    have qf : w3.frozen? ⟨g, 2, none⟩ = false := by
      have hb := hg3.block g (Nat.lt_of_lt_of_le HGL.out HB2.out.size) (fun e => hne e.symm)
      have h1 : w2.frozen? ⟨g, 2, none⟩ = false := (HB2.out.frozen (p := ⟨g, 2, none⟩) HGL.out).trans HFR.out
      unfold World.frozen? at h1 ⊢
      simp only [hb]
      exact h1
    clear ho3 hg3 k2 hne
    go_wp2
    go_ret
    exact ⟨rfl, _, HR3.out.1, (Chg.of_below HB2.out _).trans HR3.out.2 (fun k hk => .inl hk)⟩
end Go.Proofs.Ytiiollgipfggmaa
