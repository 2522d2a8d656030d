import Derived.Laws.StructEq
import Derived.Test.YtionbmlicmibgaaGreatDoorS4
namespace Go.Proofs.YtionbmlicmibgaaGreatDoor
set_option linter.unusedVariables false
set_option linter.unusedSimpArgs false
open Go.RowKit
theorem FoIs.chg {w w' : World} {g b : Nat} {tr : Int} {L : List Sp} {T : Nat → Prop} (h : FoIs w g b tr L) (hc : Chg w w' T) (hg : ¬ T g) (hb : ¬ T b) : FoIs w' g b tr L :=
 ⟨hc.cell h.c0 hg, hc.cell h.c1 hg, h.ne, by obtain ⟨D, hD⟩ := h.bag; exact ⟨D, hD.chg hc hb⟩, h.ok⟩
theorem BagIs.ne_cell {w : World} {b g i : Nat} {L : List Sp} {D : DataW Value} {u : Value} (h : BagIs w b L D) (hc : w.cell? ⟨g, i, none⟩ = some u) : g ≠ b := by
 rintro rfl
 obtain ⟨es, clock, h1, _⟩ := h.map
 simp [World.cell?, h1] at hc
theorem cnAt_new (w : World) : CnAt (w.alloc (.cells #[.int .i64 0, .int .i64 0, .int .i64 0, .int .i64 0, .int .i64 0] 64)) w.heap.size cn0 := by
 have hA := heap_alloc_new w (.cells #[.int .i64 0, .int .i64 0, .int .i64 0, .int .i64 0, .int .i64 0] 64)
 exact ⟨cell_of_row _ _ 0 _ 64 (0, 0) hA, cell_of_row _ _ 1 _ 64 (0, 0) hA, cell_of_row _ _ 2 _ 64 (0, 0) hA, cell_of_row _ _ 3 _ 64 (0, 0) hA, cell_of_row _ _ 4 _ 64 (0, 0) hA, fun k _ => frozen_of_row _ _ k _ 64 hA⟩
theorem five_set {W : World} {r : Nat} {a0 a1 a2 a3 a4 : Value} (hA : W.heap[r]? = some (.cells #[a0, a1, a2, a3, a4] 64)) (v0 v1 v2 v3 v4 : Value) :
  (((((W.setCell ⟨r, 0, none⟩ v0).setCell ⟨r, 1, none⟩ v1).setCell ⟨r, 2, none⟩ v2).setCell ⟨r, 3, none⟩ v3).setCell ⟨r, 4, none⟩ v4).heap[r]? = some (.cells #[v0, v1, v2, v3, v4] 64) := by
 have q0 := heap_setCell_same W r 0 _ 64 v0 hA
 have q1 := heap_setCell_same _ r 1 _ 64 v1 q0
 have q2 := heap_setCell_same _ r 2 _ 64 v2 q1
 have q3 := heap_setCell_same _ r 3 _ 64 v3 q2
 exact heap_setCell_same _ r 4 _ 64 v4 q3
theorem five_chg {w W : World} {T : Nat → Prop} {r : Nat} (h : Chg w W T) (hr : T r ∨ w.heap.size ≤ r) (v0 v1 v2 v3 v4 : Value) : Chg w (((((W.setCell ⟨r, 0, none⟩ v0).setCell ⟨r, 1, none⟩ v1).setCell ⟨r, 2, none⟩ v2).setCell ⟨r, 3, none⟩ v3).setCell ⟨r, 4, none⟩ v4) T :=
 ((((h.set v0 hr).set v1 hr).set v2 hr).set v3 hr).set v4 hr
noncomputable def addV (tr : Int) (L l : List Sp) : Value := if l.all (fun x => x.ok && decide (x.t = tr)) = true then .tuple #[cnV (putsP L cn0 l).2, .int .i64 0] else .tuple #[cnV cn0, .int .i64 30]
def AddPost (w : World) (g b : Nat) (tr : Int) (L l : List Sp) (e : Ending) (w' : World) : Prop := e = .returned (addV tr L l) ∧ FoIs w' g b tr (addP tr L l) ∧ Chg w w' fun k => k = b
set_option maxRecDepth 200000 in
set_option maxHeartbeats 1100000 in
theorem add_any {w : World} {g b : Nat} {tr : Int} {L l : List Sp} {v : Value} (h : FoIs w g b tr L) (hv : Sps w v l) (hl : l.length ≤ 100000) (hnm : ∀ x ∈ l, x.n.size ≤ 1100000) :
  Calls Tryz.prog 213 #[.pointer (some ⟨g, 0, none⟩), v] w (AddPost w g b tr L l) := by
 obtain ⟨p, n, c, rfl⟩ := hv.sl
 have hn := hv.len.1
 have hn1 : n ≤ 100000 := by omega
 have hgw := lt_of_cell h.c0
 dsimp only at hgw
 have hbw : b < w.heap.size := by obtain ⟨D, hD⟩ := h.bag; exact hD.map.lt
 have hB0 := (Below.refl w.heap.size w).alloc (Nat.le_refl _) (.cells #[.int .i64 0, .int .i64 0, .int .i64 0, .int .i64 0, .int .i64 0] 64)
 have hrow := heap_alloc_new w (.cells #[.int .i64 0, .int .i64 0, .int .i64 0, .int .i64 0, .int .i64 0] 64)
 have HMD := hide (made_any (h.below hB0))
 have HV := hide hv
 have HN := hide hn
 have HNM := hide hnm
 have HF := hide h
 have HB0 := hide hB0
 have HROW := hide hrow
 clear hv hn hnm h hB0 hrow hl
 go_enter Tryz.func213, Tryz.ntmps213
 go_wp2_with fail
 refine HMD.out.mono ?_
 rintro e1 w1 ⟨rfl, q0, rfl⟩
 obtain ⟨X, hX⟩ : ∃ X, (w.alloc (.cells #[.int .i64 0, .int .i64 0, .int .i64 0, .int .i64 0, .int .i64 0] 64)).drewN q0 = X := ⟨_, rfl⟩
 have HB1 : Hid (Below w.heap.size w X) := hide (by rw [← hX]; exact HB0.out.trans (bdrew _ q0))
 have HROW1 : Hid (X.heap[w.heap.size]? = some (.cells #[.int .i64 0, .int .i64 0, .int .i64 0, .int .i64 0, .int .i64 0] 64)) := hide (by rw [← hX]; exact HROW.out)
 have hXs : X.heap.size = w.heap.size + 1 := by rw [← hX]; simp
 have HXS := hide hXs
 rw [hX]
 clear hX hXs HB0 HROW HMD
 go_wp2_with fail
 go_loopw [7, 17] (fun _ ix wr => ∃ k : Nat, k ≤ n ∧ ix = .int .i64 k ∧ Hid (Below X.heap.size X wr ∧ (l.take k).all (fun x => x.ok && decide (x.t = tr)) = true)) (fun _ ix _ => n - (intOf ix).toNat)
 case atStart => exact ⟨0, by omega, rfl, hide ⟨Below.refl _ _, rfl⟩⟩
 case round =>
  obtain ⟨k, hk, rfl, HR⟩ := hrel
  by_cases hlt : (k : Int) < (n : Int)
  ·obtain ⟨gv, ov, rfl, hx⟩ := HV.out.at_ (by omega)
   obtain ⟨x, hxk⟩ : ∃ x, l[k]? = some x := ⟨_, List.getElem?_eq_getElem (by have := HN.out; omega)⟩
   have hbw : Below w.heap.size w wr := HB1.out.trans (HR.out.1.mono (by have := HXS.out; omega))
   have hat := (hx k x hxk).below hbw
   obtain ⟨oo, hoo⟩ : ∃ oo, ov + k * 6 = oo := ⟨_, rfl⟩
   rw [hoo] at hat
   have z0 := hat.c0
   have z1 := hat.c1
   have z2 := hat.c2
   have z3 := hat.c3
   have z4 := hat.c4
   have z5 := hat.c5
   have hxn := HNM.out x (List.mem_of_getElem? hxk)
   have HCK := hide (check_any x hxn)
   have hnew := spAt_new wr x
   have hfr := HF.out.below hbw
   obtain ⟨Y, hY⟩ : ∃ Y, wr.alloc (.cells #[.int .i64 x.t, .int .i64 x.i, .int .i64 x.p, .int .i64 x.s, .int .i64 x.e, .string x.n] 30) = Y := ⟨_, rfl⟩
   have hbY : Below wr.heap.size wr Y := by rw [← hY]; exact (Below.refl _ _).alloc (Nat.le_refl _) _
   have hfY := hfr.below hbY
   rw [hY] at hnew
   have yg := hfY.c1
   obtain ⟨y0, y1, y2, y3, y4, y5⟩ := hnew.z
   have HYD := hide hY
   have HXK := hide hxk
   have HBY : Hid (Below X.heap.size X Y) := hide (HR.out.1.trans (hbY.mono HR.out.1.size))
   have hgY := lt_of_cell yg
   have hwY := hnew.lt
   have KEEP : Hid (∀ q w7, Below (Y.drewN q).heap.size (Y.drewN q) w7 → w7.cell? ⟨wr.heap.size, 0, none⟩ = some (.int .i64 x.t) ∧ w7.cell? ⟨wr.heap.size, 1, none⟩ = some (.int .i64 x.i) ∧ w7.cell? ⟨wr.heap.size, 2, none⟩ = some (.int .i64 x.p) ∧ w7.cell? ⟨wr.heap.size, 3, none⟩ = some (.int .i64 x.s) ∧ w7.cell? ⟨wr.heap.size, 4, none⟩ = some (.int .i64 x.e) ∧ w7.cell? ⟨wr.heap.size, 5, none⟩ = some (.string x.n) ∧ w7.cell? ⟨g, 1, none⟩ = some (.int .i64 tr)) := hide (fun q w7 hb7 =>
    ⟨(hb7.cell (p := ⟨wr.heap.size, 0, none⟩) hwY).trans y0, (hb7.cell (p := ⟨wr.heap.size, 1, none⟩) hwY).trans y1, (hb7.cell (p := ⟨wr.heap.size, 2, none⟩) hwY).trans y2, (hb7.cell (p := ⟨wr.heap.size, 3, none⟩) hwY).trans y3, (hb7.cell (p := ⟨wr.heap.size, 4, none⟩) hwY).trans y4, (hb7.cell (p := ⟨wr.heap.size, 5, none⟩) hwY).trans y5, (hb7.cell (p := ⟨g, 1, none⟩) hgY).trans yg⟩)
   clear hx hxk hat hxn hnew hfr hbY hfY hY hbw hgY hwY
   obtain ⟨t, i, p', s, en, nm⟩ := x
   dsimp only at *
   unfold spV at *
   dsimp only at *
   by_cases htr : t = tr
   ·subst htr
    go_wp2_with fail
    rw [HYD.out]
    by_cases hok : Sp.ok ⟨t, i, p', s, en, nm⟩ = true
    ·rw [if_pos hok] at HCK
     have HOK := hide hok
     clear hok
     go_region_held3 (fun W => W.cell? ⟨wr.heap.size, 0, none⟩ = some (.int .i64 t) ∧ W.cell? ⟨wr.heap.size, 1, none⟩ = some (.int .i64 i) ∧ W.cell? ⟨wr.heap.size, 2, none⟩ = some (.int .i64 p') ∧ W.cell? ⟨wr.heap.size, 3, none⟩ = some (.int .i64 s) ∧ W.cell? ⟨wr.heap.size, 4, none⟩ = some (.int .i64 en) ∧ W.cell? ⟨wr.heap.size, 5, none⟩ = some (.string nm) ∧ W.cell? ⟨g, 1, none⟩ = some (.int .i64 t)) (first | go_keep | exact KEEP.out 1 _ hb7 | exact KEEP.out 0 _ hb7) (first | (go_at_call 100; refine (HCK.out _).mono ?_; rintro e7 w7 ⟨rfl, hb7⟩))
     have HB7 : Hid (Below X.heap.size X w7) := hide (HBY.out.trans (((show Below Y.heap.size Y Y.drew from bdrew Y 1).trans hb7).mono HBY.out.size))
     clear hb7
     go_wp2
     go_roundw
     case rel =>
      refine ⟨k + 1, by omega, by go_num, hide ⟨HB7.out, ?_⟩⟩
      have h1 : l.take (k + 1) = l.take k ++ [⟨t, i, p', s, en, nm⟩] := by rw [List.take_add_one, HXK.out]; rfl
      rw [h1, List.all_append, HR.out.2]
      simp only [List.all_cons, List.all_nil, Bool.and_true, Bool.true_and, decide_true]
      exact HOK.out
     case measure => simp [intOf]; omega
    ·have HBAD : Hid (¬ l.all (fun x => x.ok && decide (x.t = t)) = true) := hide (fun hall => hok (by
      have := List.all_eq_true.1 hall _ (List.mem_of_getElem? HXK.out)
      rw [Bool.and_eq_true] at this
      exact this.1))
     rw [if_neg hok] at HCK
     clear hok
     go_region_held3 (fun W => W.cell? ⟨wr.heap.size, 0, none⟩ = some (.int .i64 t) ∧ W.cell? ⟨wr.heap.size, 1, none⟩ = some (.int .i64 i) ∧ W.cell? ⟨wr.heap.size, 2, none⟩ = some (.int .i64 p') ∧ W.cell? ⟨wr.heap.size, 3, none⟩ = some (.int .i64 s) ∧ W.cell? ⟨wr.heap.size, 4, none⟩ = some (.int .i64 en) ∧ W.cell? ⟨wr.heap.size, 5, none⟩ = some (.string nm) ∧ W.cell? ⟨g, 1, none⟩ = some (.int .i64 t)) (first | go_keep | exact KEEP.out 1 _ hb7 | exact KEEP.out 0 _ hb7) (first | (go_at_call 100; refine (HCK.out _).mono ?_; rintro e7 w7 ⟨rfl, hb7⟩))
     have HB7 : Hid (Below X.heap.size X w7) := hide (HBY.out.trans (((show Below Y.heap.size Y Y.drew from bdrew Y 1).trans hb7).mono HBY.out.size))
     clear hb7
     have hrw : (w7).heap[w.heap.size]? = some (.cells #[.int .i64 0, .int .i64 0, .int .i64 0, .int .i64 0, .int .i64 0] 64) := ((HB7.out.block w.heap.size (by have := HXS.out; omega)).trans HROW1.out)
     have hbw9 : Below w.heap.size w (w7) := HB1.out.trans (HB7.out.mono (by have := HXS.out; omega))
     obtain ⟨W, hW⟩ : ∃ W, w7 = W := ⟨_, rfl⟩
     rw [hW] at hrw hbw9 ⊢
     have cb0 := cell_of_row W w.heap.size 0 _ 64 (0, 0) hrw
     have cb1 := cell_of_row W w.heap.size 1 _ 64 (0, 0) hrw
     have cb2 := cell_of_row W w.heap.size 2 _ 64 (0, 0) hrw
     have cb3 := cell_of_row W w.heap.size 3 _ 64 (0, 0) hrw
     have cb4 := cell_of_row W w.heap.size 4 _ 64 (0, 0) hrw
     have cf0 := frozen_of_row W w.heap.size 0 _ 64 hrw
     have cf1 := frozen_of_row W w.heap.size 1 _ 64 hrw
     have cf2 := frozen_of_row W w.heap.size 2 _ 64 hrw
     have cf3 := frozen_of_row W w.heap.size 3 _ 64 hrw
     have cf4 := frozen_of_row W w.heap.size 4 _ 64 hrw
     have HRW := hide hrw
     have HBW9 := hide hbw9
     clear hrw hbw9 hW
     skip
     go_wp2
     refine bodyPost_ret (v := .tuple #[cnV cn0, .int .i64 30]) (by
      have q5 := five_set HRW.out (.int .i64 0) (.int .i64 0) (.int .i64 0) (.int .i64 0) (.int .i64 0)
      generalize (((((W.setCell ⟨w.heap.size, 0, none⟩ (.int .i64 0)).setCell ⟨w.heap.size, 1, none⟩ (.int .i64 0)).setCell ⟨w.heap.size, 2, none⟩ (.int .i64 0)).setCell ⟨w.heap.size, 3, none⟩ (.int .i64 0)).setCell ⟨w.heap.size, 4, none⟩ (.int .i64 0)) = W9 at q5 ⊢
      have m0 := cell_of_row W9 w.heap.size 0 _ 64 (0, 0) q5
      have m1 := cell_of_row W9 w.heap.size 1 _ 64 (0, 0) q5
      have m2 := cell_of_row W9 w.heap.size 2 _ 64 (0, 0) q5
      have m3 := cell_of_row W9 w.heap.size 3 _ 64 (0, 0) q5
      have m4 := cell_of_row W9 w.heap.size 4 _ 64 (0, 0) q5
      have hz9 : w.heap.size < W9.heap.size := by have := (Array.getElem?_eq_some_iff.1 q5).1; exact this
      clear q5
      unfold cnV
      simp at m0 m1 m2 m3 m4
      simp [results, Tryz.results213, go_sem, m0, m1, m2, m3, m4, hz9, cn0]) rfl ⟨by unfold addV; rw [if_neg HBAD.out], ?_, ?_⟩
     ·have hc9 := five_chg (Chg.of_below HBW9.out (fun _ => False)) (.inr (Nat.le_refl w.heap.size)) (.int .i64 0) (.int .i64 0) (.int .i64 0) (.int .i64 0) (.int .i64 0)
      rw [addP, if_neg HBAD.out]
      exact HF.out.chg hc9 (fun h => h) (fun h => h)
     ·exact (five_chg (Chg.of_below HBW9.out (fun _ => False)) (.inr (Nat.le_refl w.heap.size)) (.int .i64 0) (.int .i64 0) (.int .i64 0) (.int .i64 0) (.int .i64 0)).mono (fun k hk => hk.elim)
   ·have hb : (t == tr) = false := beq_eq_false_iff_ne.2 htr
    have hb2 : (t != tr) = true := by simp [htr]
    go_wp2_with fail
    rw [HYD.out]
    go_quiet (fail)
    have HBAD : Hid (¬ l.all (fun x => x.ok && decide (x.t = tr)) = true) := hide (fun hall => htr (by
     have := List.all_eq_true.1 hall _ (List.mem_of_getElem? HXK.out)
     rw [Bool.and_eq_true, decide_eq_true_eq] at this
     exact this.2))
    have hrw : (Y.drewN nq).heap[w.heap.size]? = some (.cells #[.int .i64 0, .int .i64 0, .int .i64 0, .int .i64 0, .int .i64 0] 64) := ((show (Y.drewN nq).heap[w.heap.size]? = X.heap[w.heap.size]? from HBY.out.block w.heap.size (by have := HXS.out; omega)).trans HROW1.out)
    have hbw9 : Below w.heap.size w (Y.drewN nq) := (HB1.out.trans (HBY.out.mono (by have := HXS.out; omega))).trans (bdrew _ nq)
    obtain ⟨W, hW⟩ : ∃ W, Y.drewN nq = W := ⟨_, rfl⟩
    rw [hW] at hrw hbw9 ⊢
    have cb0 := cell_of_row W w.heap.size 0 _ 64 (0, 0) hrw
    have cb1 := cell_of_row W w.heap.size 1 _ 64 (0, 0) hrw
    have cb2 := cell_of_row W w.heap.size 2 _ 64 (0, 0) hrw
    have cb3 := cell_of_row W w.heap.size 3 _ 64 (0, 0) hrw
    have cb4 := cell_of_row W w.heap.size 4 _ 64 (0, 0) hrw
    have cf0 := frozen_of_row W w.heap.size 0 _ 64 hrw
    have cf1 := frozen_of_row W w.heap.size 1 _ 64 hrw
    have cf2 := frozen_of_row W w.heap.size 2 _ 64 hrw
    have cf3 := frozen_of_row W w.heap.size 3 _ 64 hrw
    have cf4 := frozen_of_row W w.heap.size 4 _ 64 hrw
    have HRW := hide hrw
    have HBW9 := hide hbw9
    clear hrw hbw9 hW
    skip
    go_wp2
    refine bodyPost_ret (v := .tuple #[cnV cn0, .int .i64 30]) (by
     have q5 := five_set HRW.out (.int .i64 0) (.int .i64 0) (.int .i64 0) (.int .i64 0) (.int .i64 0)
     generalize (((((W.setCell ⟨w.heap.size, 0, none⟩ (.int .i64 0)).setCell ⟨w.heap.size, 1, none⟩ (.int .i64 0)).setCell ⟨w.heap.size, 2, none⟩ (.int .i64 0)).setCell ⟨w.heap.size, 3, none⟩ (.int .i64 0)).setCell ⟨w.heap.size, 4, none⟩ (.int .i64 0)) = W9 at q5 ⊢
     have m0 := cell_of_row W9 w.heap.size 0 _ 64 (0, 0) q5
     have m1 := cell_of_row W9 w.heap.size 1 _ 64 (0, 0) q5
     have m2 := cell_of_row W9 w.heap.size 2 _ 64 (0, 0) q5
     have m3 := cell_of_row W9 w.heap.size 3 _ 64 (0, 0) q5
     have m4 := cell_of_row W9 w.heap.size 4 _ 64 (0, 0) q5
     have hz9 : w.heap.size < W9.heap.size := by have := (Array.getElem?_eq_some_iff.1 q5).1; exact this
     clear q5
     unfold cnV
     simp at m0 m1 m2 m3 m4
     simp [results, Tryz.results213, go_sem, m0, m1, m2, m3, m4, hz9, cn0]) rfl ⟨by unfold addV; rw [if_neg HBAD.out], ?_, ?_⟩
    ·have hc9 := five_chg (Chg.of_below HBW9.out (fun _ => False)) (.inr (Nat.le_refl w.heap.size)) (.int .i64 0) (.int .i64 0) (.int .i64 0) (.int .i64 0) (.int .i64 0)
     rw [addP, if_neg HBAD.out]
     exact HF.out.chg hc9 (fun h => h) (fun h => h)
    ·exact (five_chg (Chg.of_below HBW9.out (fun _ => False)) (.inr (Nat.le_refl w.heap.size)) (.int .i64 0) (.int .i64 0) (.int .i64 0) (.int .i64 0) (.int .i64 0)).mono (fun k hk => hk.elim)
  ·have hkn : k = n := by omega
   subst hkn
   have hall : l.all (fun x => x.ok && decide (x.t = tr)) = true := by
    have := HR.out.2
    rwa [List.take_of_length_le (by have := HN.out; omega)] at this
   have hlok : ∀ x ∈ l, x.ok = true ∧ x.p ≠ x.i ∧ x.t = tr := fun x hx => by
    have := List.all_eq_true.1 hall x hx
    rw [Bool.and_eq_true, decide_eq_true_eq] at this
    exact ⟨this.1, ok_ne this.1, this.2⟩
   have hwr : Below w.heap.size w wr := HB1.out.trans (HR.out.1.mono (by have := HXS.out; omega))
   have hwrs : w.heap.size < wr.heap.size := by have := HR.out.1.size; have := HXS.out; omega
   have hZ0 : Below wr.heap.size wr (wr.alloc (.cells #[.int .i64 0, .int .i64 0, .int .i64 0, .int .i64 0, .int .i64 0] 64)) := (Below.refl _ _).alloc (Nat.le_refl _) _
   have hcn := cnAt_new wr
   have hZ1 : Below w.heap.size w (wr.alloc (.cells #[.int .i64 0, .int .i64 0, .int .i64 0, .int .i64 0, .int .i64 0] 64)) := hwr.trans (hZ0.mono (by omega))
   have hrowZ : (wr.alloc (.cells #[.int .i64 0, .int .i64 0, .int .i64 0, .int .i64 0, .int .i64 0] 64)).heap[w.heap.size]? = some (.cells #[.int .i64 0, .int .i64 0, .int .i64 0, .int .i64 0, .int .i64 0] 64) :=
    (hZ0.block w.heap.size hwrs).trans ((HR.out.1.block w.heap.size (by have := HXS.out; omega)).trans HROW1.out)
   have hZs : (wr.alloc (.cells #[.int .i64 0, .int .i64 0, .int .i64 0, .int .i64 0, .int .i64 0] 64)).heap.size = wr.heap.size + 1 := by simp
   have HALL := hide (And.intro hall hlok)
   clear hall hlok hwr hZ0 HR
   go_wp2_with fail
   obtain ⟨Z, hZ⟩ : ∃ Z, wr.alloc (.cells #[.int .i64 0, .int .i64 0, .int .i64 0, .int .i64 0, .int .i64 0] 64) = Z := ⟨_, rfl⟩
   obtain ⟨gc, hgc⟩ : ∃ gc, wr.heap.size = gc := ⟨_, rfl⟩
   rw [hZ] at hcn hZ1 hrowZ hZs
   rw [hgc] at hcn hwrs hZs
   rw [hZ, hgc]
   have hfZ := HF.out.below hZ1
   obtain ⟨D0, hD0⟩ := hfZ.bag
   have hgcb : gc ≠ b := by omega
   have HZ := hide (And.intro hcn (And.intro hZ1 (And.intro hrowZ (And.intro hfZ (And.intro hD0 hgcb)))))
   clear hZ hgc hcn hZ1 hrowZ hfZ hD0
   go_loopw [10, 37] (fun _ ix wz => ∃ j : Nat, j ≤ k ∧ ix = .int .i64 j ∧ Hid (Chg Z wz (fun i => i = b ∨ i = gc) ∧ (∃ D, BagIs wz b (putsP L cn0 (l.take j)).1 D) ∧ CnAt wz gc (putsP L cn0 (l.take j)).2)) (fun _ ix _ => k - (intOf ix).toNat)
   case atStart => exact ⟨0, by omega, rfl, hide ⟨Chg.refl _ _, ⟨D0, HZ.out.2.2.2.2.1⟩, HZ.out.1⟩⟩
   case round =>
    obtain ⟨j, hj, rfl, HR⟩ := hrel
    have hokj : FoOk tr (putsP L cn0 (l.take j)).1 := putsP_ok _ HF.out.ok fun x hx => HALL.out.2 x (List.mem_of_mem_take hx)
    by_cases hlt2 : (j : Int) < (k : Int)
    ·obtain ⟨gv, ov, rfl, hx⟩ := HV.out.at_ (by omega)
     obtain ⟨x, hxk⟩ : ∃ x, l[j]? = some x := ⟨_, List.getElem?_eq_getElem (by have := HN.out; omega)⟩
     obtain ⟨D, hD⟩ := HR.out.2.1
     have hgvw := (hx j x hxk).lt
     have hgvb : gv ≠ b := by
      obtain ⟨D1, hD1⟩ := HF.out.bag
      exact hD1.ne_cell (hx j x hxk).c0
     have hat : SpAt wr gv (ov + j * 6) x := fun i u hu => HR.out.1.cell (((hx j x hxk).below HZ.out.2.1) i u hu) (by
      rintro (h1 | h1)
      ·exact hgvb h1
      ·simp only at h1; omega)
     obtain ⟨oo, hoo⟩ : ∃ oo, ov + j * 6 = oo := ⟨_, rfl⟩
     rw [hoo] at hat
     have z0 := hat.c0
     have z1 := hat.c1
     have z2 := hat.c2
     have z3 := hat.c3
     have z4 := hat.c4
     have z5 := hat.c5
     have hg0 : wr.cell? ⟨g, 0, none⟩ = some (.map (some b)) := HR.out.1.cell HZ.out.2.2.2.1.c0 (by
      rintro (h1 | h1)
      ·exact HF.out.ne h1
      ·simp only at h1; omega)
     have hgcz : gc < wr.heap.size := lt_of_cell HR.out.2.2.c0
     have htk : l.take (j + 1) = l.take j ++ [x] := by rw [List.take_add_one, hxk]; rfl
     have hsum : (putsP L cn0 (l.take j)).2.sum ≤ 1100000 := by
      rw [putsP_sum, List.length_take]
      show 0 + 0 + 0 + 0 + 0 + _ ≤ _
      omega
     have hxok := HALL.out.2 x (List.mem_of_getElem? hxk)
     have hwfx : (Lit.int .i64 x.i).wf = true ∧ (Lit.int .i64 x.p).wf = true := by
      obtain ⟨t1, t2, i1, i2, p1, p2, _⟩ := (Sp.ok_iff x).1 hxok.1
      exact ⟨WalkArith.wf_i64 (by omega), WalkArith.wf_i64 (by omega)⟩
     have hnew := spAt_new wr x
     obtain ⟨Y, hY⟩ : ∃ Y, wr.alloc (.cells #[.int .i64 x.t, .int .i64 x.i, .int .i64 x.p, .int .i64 x.s, .int .i64 x.e, .string x.n] 30) = Y := ⟨_, rfl⟩
     have hDY : BagIs Y b (putsP L cn0 (l.take j)).1 D := by rw [← hY]; exact hD.grown (World.grownBy_alloc wr _ none) (by simp)
     have hcY : CnAt Y gc (putsP L cn0 (l.take j)).2 := by rw [← hY]; exact HR.out.2.2.alloc _
     have hZY : Chg Z Y (fun i => i = b ∨ i = gc) := by rw [← hY]; exact HR.out.1.alloc _
     have yg : Y.cell? ⟨g, 0, none⟩ = some (.map (some b)) := by rw [← hY]; exact Lib.cell?_alloc_some _ hg0
     rw [hY] at hnew
     have hwY := hnew.lt
     have HPUT := hide (fun q => put_any (w := Y.drewN q) (x := x) (hDY.drewN q) hokj.rises (fun y hy => (spans_wf hokj hy).2) hwfx.1 hwfx.2 hokj.len (c := (putsP L cn0 (l.take j)).2) (gc := gc) ⟨hcY.c0, hcY.c1, hcY.c2, hcY.c3, hcY.c4, hcY.fr⟩ hsum HZ.out.2.2.2.2.2)
     obtain ⟨y0, y1, y2, y3, y4, y5⟩ := hnew.z
     have hbz : b < wr.heap.size := hD.map.lt
     have KEEP : Hid (∀ q w7, Chg (Y.drewN q) w7 (fun i => i = b ∨ i = gc) → w7.cell? ⟨wr.heap.size, 0, none⟩ = some (.int .i64 x.t) ∧ w7.cell? ⟨wr.heap.size, 1, none⟩ = some (.int .i64 x.i) ∧ w7.cell? ⟨wr.heap.size, 2, none⟩ = some (.int .i64 x.p) ∧ w7.cell? ⟨wr.heap.size, 3, none⟩ = some (.int .i64 x.s) ∧ w7.cell? ⟨wr.heap.size, 4, none⟩ = some (.int .i64 x.e) ∧ w7.cell? ⟨wr.heap.size, 5, none⟩ = some (.string x.n) ∧ w7.cell? ⟨g, 0, none⟩ = some (.map (some b))) := hide (fun q w7 hc7 =>
      have hn : ¬ (wr.heap.size = b ∨ wr.heap.size = gc) := by omega
      have hg : ¬ (g = b ∨ g = gc) := by
       rintro (h1 | h1)
       ·exact HF.out.ne h1
       ·omega
      ⟨hc7.cell y0 hn, hc7.cell y1 hn, hc7.cell y2 hn, hc7.cell y3 hn, hc7.cell y4 hn, hc7.cell y5 hn, hc7.cell yg hg⟩)
     have HYD := hide hY
     have HTK := hide htk
     have HZY := hide hZY
     clear hx hxk hat hD hgvw hgvb hg0 htk hsum hxok hwfx hnew hDY hcY hZY hY hokj hbz hgcz hwY
     obtain ⟨t, i, p', s, en, nm⟩ := x
     dsimp only at *
     unfold spV at *
     dsimp only at *
     go_wp2_with fail
     rw [HYD.out]
     go_region_held3 (fun W => W.cell? ⟨wr.heap.size, 0, none⟩ = some (.int .i64 t) ∧ W.cell? ⟨wr.heap.size, 1, none⟩ = some (.int .i64 i) ∧ W.cell? ⟨wr.heap.size, 2, none⟩ = some (.int .i64 p') ∧ W.cell? ⟨wr.heap.size, 3, none⟩ = some (.int .i64 s) ∧ W.cell? ⟨wr.heap.size, 4, none⟩ = some (.int .i64 en) ∧ W.cell? ⟨wr.heap.size, 5, none⟩ = some (.string nm) ∧ W.cell? ⟨g, 0, none⟩ = some (.map (some b))) (first | go_keep | exact KEEP.out 1 _ hc7 | exact KEEP.out 0 _ hc7) (first | (go_at_call 222; refine (HPUT.out 1).mono ?_; rintro e7 w7 ⟨rfl, hD7, hn7, hc7⟩) | (go_at_call 222; refine (HPUT.out 0).mono ?_; rintro e7 w7 ⟨rfl, hD7, hn7, hc7⟩))
     have H7 : Hid (Chg Z w7 (fun i => i = b ∨ i = gc) ∧ (∃ D, BagIs w7 b (putsP L cn0 (l.take (j + 1))).1 D) ∧ CnAt w7 gc (putsP L cn0 (l.take (j + 1))).2) := hide (by
      rw [HTK.out, putsP_snoc]
      exact ⟨(HZY.out.drewN 1).trans hc7 (fun i hi => .inl hi), hD7, hn7⟩)
     clear hD7 hn7 hc7
     go_wp2
     go_roundw
     case rel => exact ⟨j + 1, by omega, by go_num, H7⟩
     case measure => simp [intOf]; omega
    ·have hjk : j = k := by omega
     subst hjk
     have htl : l.take j = l := List.take_of_length_le (by have := HN.out; omega)
     rw [htl] at HR hokj
     obtain ⟨hcz, ⟨D, hD⟩, hnz⟩ := HR.out
     have hrw : wr.heap[w.heap.size]? = some (.cells #[.int .i64 0, .int .i64 0, .int .i64 0, .int .i64 0, .int .i64 0] 64) := (hcz.block w.heap.size (by omega) (by omega)).trans HZ.out.2.2.1
     have k0 := hnz.c0
     have k1 := hnz.c1
     have k2 := hnz.c2
     have k3 := hnz.c3
     have k4 := hnz.c4
     have hfin : FoIs wr g b tr (putsP L cn0 l).1 := by
      have hg : ¬ (g = b ∨ g = gc) := by
       rintro (h1 | h1)
       ·exact HF.out.ne h1
       ·omega
      exact ⟨hcz.cell HZ.out.2.2.2.1.c0 hg, hcz.cell HZ.out.2.2.2.1.c1 hg, HF.out.ne, ⟨D, hD⟩, hokj⟩
     have hchg : Chg w wr (fun i => i = b) := (Chg.of_below HZ.out.2.1 (fun i => i = b)).trans hcz (fun i hi => by
      rcases hi with h1 | h1
      ·exact .inl h1
      ·exact .inr (by omega))
     have cb0 := cell_of_row wr w.heap.size 0 _ 64 (0, 0) hrw
     have cb1 := cell_of_row wr w.heap.size 1 _ 64 (0, 0) hrw
     have cb2 := cell_of_row wr w.heap.size 2 _ 64 (0, 0) hrw
     have cb3 := cell_of_row wr w.heap.size 3 _ 64 (0, 0) hrw
     have cb4 := cell_of_row wr w.heap.size 4 _ 64 (0, 0) hrw
     have cf0 := frozen_of_row wr w.heap.size 0 _ 64 hrw
     have cf1 := frozen_of_row wr w.heap.size 1 _ 64 hrw
     have cf2 := frozen_of_row wr w.heap.size 2 _ 64 hrw
     have cf3 := frozen_of_row wr w.heap.size 3 _ 64 hrw
     have cf4 := frozen_of_row wr w.heap.size 4 _ 64 hrw
     obtain ⟨C, hC⟩ : ∃ C, (putsP L cn0 l).2 = C := ⟨_, rfl⟩
     rw [hC] at k0 k1 k2 k3 k4
     have HC := hide hC
     have HRW := hide hrw
     have HFN := hide (And.intro hfin hchg)
     clear htl HR hokj hcz hD hnz hrw hfin hchg hC
     go_wp2
     refine bodyPost_ret (v := .tuple #[cnV C, .int .i64 0]) (by
      have q5 := five_set HRW.out (.int .i64 (C.add : Nat)) (.int .i64 (C.same : Nat)) (.int .i64 (C.other : Nat)) (.int .i64 (C.cyc : Nat)) (.int .i64 (C.full : Nat))
      generalize (((((wr.setCell ⟨w.heap.size, 0, none⟩ (.int .i64 (C.add : Nat))).setCell ⟨w.heap.size, 1, none⟩ (.int .i64 (C.same : Nat))).setCell ⟨w.heap.size, 2, none⟩ (.int .i64 (C.other : Nat))).setCell ⟨w.heap.size, 3, none⟩ (.int .i64 (C.cyc : Nat))).setCell ⟨w.heap.size, 4, none⟩ (.int .i64 (C.full : Nat))) = W9 at q5 ⊢
      have m0 := cell_of_row W9 w.heap.size 0 _ 64 (0, 0) q5
      have m1 := cell_of_row W9 w.heap.size 1 _ 64 (0, 0) q5
      have m2 := cell_of_row W9 w.heap.size 2 _ 64 (0, 0) q5
      have m3 := cell_of_row W9 w.heap.size 3 _ 64 (0, 0) q5
      have m4 := cell_of_row W9 w.heap.size 4 _ 64 (0, 0) q5
      have hz9 : w.heap.size < W9.heap.size := by have := (Array.getElem?_eq_some_iff.1 q5).1; exact this
      clear q5
      unfold cnV
      simp at m0 m1 m2 m3 m4
      simp [results, Tryz.results213, go_sem, m0, m1, m2, m3, m4, hz9, cn0]) rfl ⟨by unfold addV; rw [if_pos HALL.out.1, HC.out], ?_, ?_⟩
     ·have hc9 := five_chg (Chg.refl wr (fun i => i = w.heap.size)) (.inl rfl) (.int .i64 (C.add : Nat)) (.int .i64 (C.same : Nat)) (.int .i64 (C.other : Nat)) (.int .i64 (C.cyc : Nat)) (.int .i64 (C.full : Nat))
      rw [addP, if_pos HALL.out.1]
      exact HFN.out.1.chg hc9 (by omega) (by omega)
     ·exact five_chg HFN.out.2 (.inr (Nat.le_refl w.heap.size)) (.int .i64 (C.add : Nat)) (.int .i64 (C.same : Nat)) (.int .i64 (C.other : Nat)) (.int .i64 (C.cyc : Nat)) (.int .i64 (C.full : Nat))
end Go.Proofs.YtionbmlicmibgaaGreatDoor
namespace Go.Proofs.YtionbmlicmibgaaGreatDoor
set_option linter.unusedVariables false
set_option linter.unusedSimpArgs false
open Go.RowKit Go.Lib
set_option maxRecDepth 200000 in
set_option maxHeartbeats 1100000 in
theorem spans_any {w : World} {g b : Nat} {tr : Int} {L : List Sp} (h : FoIs w g b tr L) : Calls Tryz.prog 164 #[.pointer (some ⟨g, 0, none⟩)] w fun e w' => ∃ v', e = .returned v' ∧ OwnS w.heap.size w' v' (sortS L) ∧ Below w.heap.size w w' := by
 have HM := hide (made_any h)
 have c0 := h.c0
 obtain ⟨D, hD⟩ := h.bag
 have HT := hide (fun q => sorted_any (hD.drewN q) h.ok.len)
 clear h hD
 go_enter Tryz.func164, Tryz.ntmps164
 go_wp2_with fail
 refine HM.out.mono ?_
 rintro e1 w1 ⟨rfl, q, rfl⟩
 go_wp2_with fail
 refine (HT.out q).mono ?_
 rintro e2 w2 ⟨v2, rfl, ho, hb⟩
 obtain ⟨p, n, c, rfl⟩ := ho.sps.sl
 have HO := hide (And.intro ho hb)
 clear ho hb
 go_wp2
 go_ret
 exact ⟨_, rfl, HO.out.1, (bdrew w q).trans HO.out.2⟩
set_option maxRecDepth 200000 in
set_option maxHeartbeats 1100000 in
theorem end_any {w : World} {g b : Nat} {tr : Int} {L : List Sp} (h : FoIs w g b tr L) : Calls Tryz.prog 183 #[.pointer (some ⟨g, 0, none⟩)] w fun e w' => e = .returned (.int .i64 (endP L)) ∧ Below w.heap.size w w' := by
 have HM := hide (made_any h)
 have c0 := h.c0
 obtain ⟨D, hD⟩ := h.bag
 have HT := hide (fun q => lastEnd_any (hD.drewN q) (fun x hx => by
  obtain ⟨_, _, _, _, _, _, s1, s2, e2, _⟩ := (Sp.ok_iff x).1 (h.ok.ok x hx).1
  omega))
 clear h hD
 go_enter Tryz.func183, Tryz.ntmps183
 go_wp2_with fail
 refine HM.out.mono ?_
 rintro e1 w1 ⟨rfl, q, rfl⟩
 go_wp2_with fail
 refine (HT.out q).mono ?_
 rintro e2 w2 ⟨rfl, hb⟩
 have HO := hide hb
 clear hb
 go_wp2
 go_ret
 exact ⟨rfl, (bdrew w q).trans HO.out⟩
end Go.Proofs.YtionbmlicmibgaaGreatDoor
