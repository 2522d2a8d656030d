import Derived.Test.YtionbmlicmibgaaGreatDoorMcRPut
import Derived.Test.YtionbmlicmibgaaGreatDoorMcArg
import Derived.Test.YtionbmlicmibgaaGreatDoorS10
import Derived.Test.YtionbmlicmibgaaGreatDoorMcRead
import Derived.Test.YtionbmlicmibgaaGreatDoorMcLPuts0
namespace Go.Proofs.YtionbmlicmibgaaGreatDoor
set_option linter.unusedVariables false
set_option linter.unusedSimpArgs false
open Go.RowKit
def dqK (op : Int) : Int := wrap64 ((IntKind.u64.wrap op).tmod 6)
def dtK (tm : Int) : Int := wrap64 ((IntKind.u64.wrap tm).tmod 2)
theorem dtK_le (tm : Int) : 0 ≤ dtK tm ∧ dtK tm ≤ 1 := by
 have h := modOfB_ok (m := 2) (by omega) (by omega) tm
 have h1 : (modOfB 2 tm : Int) = dtK tm := h.1
 omega
def Dm.eI (d : Dm) (ix : Int) : Int := if dqK d.op = 5 then d.ei else ix + 1
def Dm.eT (d : Dm) (t : Int) : Int := if dqK d.op = 5 then d.et else if dqK d.op = 4 then max t 1 else max t 1 + dtK d.tm
noncomputable def Dm.eL (d : Dm) : List UInt8 := if dqK d.op = 5 then d.by_ else if dqK d.op = 4 then d.by_ else pB d.c
def EntP (w : World) (d : Dm) (ix t : Int) (e : Ending) (w' : World) : Prop := ∃ p n c, e = .returned (.agg #[.int .i64 (d.eI ix), .int .i64 (d.eT t), .slice p n c]) ∧ By w' (.slice p n c) d.eL ∧ Below w.heap.size w w'
def RowE (w : World) (b : Nat) (i t : Int) (v : Value) : Prop := w.heap[b]? = some (.cells #[.int .i64 i, .int .i64 t, v] 55 (0, 0))
section
variable {w w' : World} {b : Nat} {i t : Int} {v : Value}
theorem RowE.z (h : RowE w b i t v) : w.cell? ⟨b, 0, none⟩ = some (.int .i64 i) ∧ w.cell? ⟨b, 1, none⟩ = some (.int .i64 t) ∧ w.cell? ⟨b, 2, none⟩ = some v := ⟨cell_of_row w b 0 _ 55 (0, 0) h, cell_of_row w b 1 _ 55 (0, 0) h, cell_of_row w b 2 _ 55 (0, 0) h⟩
theorem RowE.f (h : RowE w b i t v) : w.frozen? ⟨b, 0, none⟩ = false ∧ w.frozen? ⟨b, 1, none⟩ = false ∧ w.frozen? ⟨b, 2, none⟩ = false := ⟨frozen_of_row w b 0 _ 55 h, frozen_of_row w b 1 _ 55 h, frozen_of_row w b 2 _ 55 h⟩
theorem RowE.lt (h : RowE w b i t v) : b < w.heap.size := lt_of_cell h.z.1
theorem RowE.below (h : RowE w b i t v) (hb : Below w.heap.size w w') : RowE w' b i t v := (hb.block b h.lt).trans h
theorem RowE.set (h : RowE w b i t v) (i' t' : Int) (v' : Value) : RowE (((w.setCell ⟨b, 0, none⟩ (.int .i64 i')).setCell ⟨b, 1, none⟩ (.int .i64 t')).setCell ⟨b, 2, none⟩ v') b i' t' v' := by
 have h0 : RowE (w.setCell ⟨b, 0, none⟩ (.int .i64 i')) b i' t v := by unfold RowE at *; rw [heap_setCell_same w b 0 _ 55 _ h]; rfl
 have h1 : RowE ((w.setCell ⟨b, 0, none⟩ (.int .i64 i')).setCell ⟨b, 1, none⟩ (.int .i64 t')) b i' t' v := by unfold RowE at *; rw [heap_setCell_same _ b 1 _ 55 _ h0]; rfl
 unfold RowE at *; rw [heap_setCell_same _ b 2 _ 55 _ h1]; rfl
end
set_option maxRecDepth 200000 in
set_option maxHeartbeats 8000000 in
theorem mentry_any {w : World} {d : Dm} (h : DmIn w d) (hnm : ∀ x ∈ d.sp, x.n.size ≤ 1100000) {ix t : Int} (hix : 0 ≤ ix ∧ ix ≤ 1099511627776) (ht : 0 ≤ t ∧ t ≤ 1099511627776) : Calls Tryz.prog 31 #[.agg (dmC d).toArray, .int .i64 ix, .int .i64 t] w (EntP w d ix t) := by
 obtain ⟨op, k, se, sq, a, p1, n1, d1, p2, n2, d2, tm, ei, et, p3, n3, d3, sp, vo, by_⟩ := d
 have HIN := hide h
 have HCM : Hid (CmAt w (.slice p1 n1 d1) (.slice p2 n2 d2) ⟨k, se, sq, a, sp, vo⟩) := hide ⟨h.sp, h.vo, hnm⟩
 have HDT := hide (dtK_le tm)
 have hb0 := (Below.refl w.heap.size w).alloc (Nat.le_refl _) (.cells #[.int .i64 op, .int .i64 k, .int .i64 se, .int .i64 sq, .int .i64 a, .slice p1 n1 d1, .slice p2 n2 d2, .int .i64 tm, .int .i64 ei, .int .i64 et, .slice p3 n3 d3] 57)
 have hb1 := hb0.alloc (o := .cells #[.int .i64 0, .int .i64 0, .slice none 0 0] 55) hb0.size
 have hs0 : (w.alloc (.cells #[.int .i64 op, .int .i64 k, .int .i64 se, .int .i64 sq, .int .i64 a, .slice p1 n1 d1, .slice p2 n2 d2, .int .i64 tm, .int .i64 ei, .int .i64 et, .slice p3 n3 d3] 57)).heap.size = w.heap.size + 1 := by simp
 have hr1 : RowE ((w.alloc (.cells #[.int .i64 op, .int .i64 k, .int .i64 se, .int .i64 sq, .int .i64 a, .slice p1 n1 d1, .slice p2 n2 d2, .int .i64 tm, .int .i64 ei, .int .i64 et, .slice p3 n3 d3] 57)).alloc (.cells #[.int .i64 0, .int .i64 0, .slice none 0 0] 55)) (w.heap.size + 1) 0 0 (.slice none 0 0) := by unfold RowE; rw [← hs0]; exact heap_alloc_new _ _
 have hr0 : ((w.alloc (.cells #[.int .i64 op, .int .i64 k, .int .i64 se, .int .i64 sq, .int .i64 a, .slice p1 n1 d1, .slice p2 n2 d2, .int .i64 tm, .int .i64 ei, .int .i64 et, .slice p3 n3 d3] 57)).alloc (.cells #[.int .i64 0, .int .i64 0, .slice none 0 0] 55)).heap[w.heap.size]? = some (.cells #[.int .i64 op, .int .i64 k, .int .i64 se, .int .i64 sq, .int .i64 a, .slice p1 n1 d1, .slice p2 n2 d2, .int .i64 tm, .int .i64 ei, .int .i64 et, .slice p3 n3 d3] 57 (0, 0)) := (((Below.refl _ (w.alloc (.cells #[.int .i64 op, .int .i64 k, .int .i64 se, .int .i64 sq, .int .i64 a, .slice p1 n1 d1, .slice p2 n2 d2, .int .i64 tm, .int .i64 ei, .int .i64 et, .slice p3 n3 d3] 57))).alloc (Nat.le_refl _) (.cells #[.int .i64 0, .int .i64 0, .slice none 0 0] 55)).block w.heap.size (by omega)).trans (heap_alloc_new w (.cells #[.int .i64 op, .int .i64 k, .int .i64 se, .int .i64 sq, .int .i64 a, .slice p1 n1 d1, .slice p2 n2 d2, .int .i64 tm, .int .i64 ei, .int .i64 et, .slice p3 n3 d3] 57))
 have hix1 : IntKind.i64.wrap (ix + 1) = ix + 1 := IntWalk.i64_in _ (by omega)
 obtain ⟨Q, hQ⟩ : ∃ q, dqK op = q := ⟨_, rfl⟩
 have hQ' : wrap64 ((IntKind.u64.wrap op).tmod 6) = Q := hQ
 obtain ⟨M, hM⟩ : ∃ q, max t 1 = q := ⟨_, rfl⟩
 have hM2 : 1 ≤ M ∧ M ≤ 1099511627776 := by omega
 unfold dmC
 dsimp only
 unfold EntP Dm.eI Dm.eT Dm.eL Dm.c
 dsimp only
 rw [hQ]
 clear h hnm
 obtain ⟨X, hX⟩ : ∃ X, (w.alloc (.cells #[.int .i64 op, .int .i64 k, .int .i64 se, .int .i64 sq, .int .i64 a, .slice p1 n1 d1, .slice p2 n2 d2, .int .i64 tm, .int .i64 ei, .int .i64 et, .slice p3 n3 d3] 57)).alloc (.cells #[.int .i64 0, .int .i64 0, .slice none 0 0] 55) = X := ⟨_, rfl⟩
 obtain ⟨b, hb⟩ : ∃ b, w.heap.size = b := ⟨_, rfl⟩
 obtain ⟨r, hr⟩ : ∃ r, b + 1 = r := ⟨_, rfl⟩
 rw [hX] at hb1 hr1 hr0
 have HBX : Hid (Below w.heap.size w X) := hide hb1
 rw [hb] at hr0 hr1
 rw [hr] at hr1
 have HRB : Hid (w.heap.size ≤ r) := hide (by omega)
 have HR1 := hide hr1
 have HR0 := hide hr0
 have cc : ∀ i u, #[.int .i64 op, .int .i64 k, .int .i64 se, .int .i64 sq, .int .i64 a, .slice p1 n1 d1, .slice p2 n2 d2, .int .i64 tm, .int .i64 ei, .int .i64 et, .slice p3 n3 d3][i]? = some u → X.cell? ⟨b, i, none⟩ = some u := fun i u hi => (cell_of_row X b i _ 57 (0, 0) hr0).trans hi
 have x0 := cc 0 _ rfl
 have x1 := cc 1 _ rfl
 have x2 := cc 2 _ rfl
 have x3 := cc 3 _ rfl
 have x4 := cc 4 _ rfl
 have x5 := cc 5 _ rfl
 have x6 := cc 6 _ rfl
 have x7 := cc 7 _ rfl
 have x8 := cc 8 _ rfl
 have x9 := cc 9 _ rfl
 have x10 := cc 10 _ rfl
 obtain ⟨z0, z1, z2⟩ := hr1.z
 obtain ⟨f0, f1, f2⟩ := hr1.f
 clear hb0 hb1 hs0 hr1 hr0 cc
 by_cases h5 : Q = 5
 ·have e5 : (Q == 5) = true := by simpa using h5
  rw [if_pos h5, if_pos h5, if_pos h5]
  go_enter Tryz.func31, Tryz.ntmps31
  go_wp2_with fail
  have hst := HR1.out.set ei et (.slice p3 n3 d3)
  have hcs := chgS (chgS (chg_set X r 0 (.int .i64 ei)) (chg_set (X.setCell ⟨r, 0, none⟩ (.int .i64 ei)) r 1 (.int .i64 et))) (chg_set ((X.setCell ⟨r, 0, none⟩ (.int .i64 ei)).setCell ⟨r, 1, none⟩ (.int .i64 et)) r 2 (.slice p3 n3 d3))
  have HBZ := hide (Chg.to_below HBX.out hcs (fun j e => by rw [e]; exact HRB.out))
  refine bodyPost_ret (v := .agg #[.int .i64 ei, .int .i64 et, (.slice p3 n3 d3)]) (by
   generalize ((X.setCell ⟨r, 0, none⟩ (.int .i64 ei)).setCell ⟨r, 1, none⟩ (.int .i64 et)).setCell ⟨r, 2, none⟩ (.slice p3 n3 d3) = W9 at hst ⊢
   obtain ⟨m0, m1, m2⟩ := hst.z
   simp [results, Tryz.results31, go_sem, m0, m1, m2]) rfl ?_
  exact ⟨_, _, _, rfl, HIN.out.by_.below HBZ.out, HBZ.out⟩
 ·have e5 : (Q == 5) = false := by simpa using h5
  rw [if_neg h5, if_neg h5, if_neg h5]
  by_cases h4 : Q = 4
  ·have e4 : (Q == 4) = true := by simpa using h4
   rw [if_pos h4, if_pos h4]
   rw [hM]
   go_enter Tryz.func31, Tryz.ntmps31
   go_wp2_with fail
   have hst := HR1.out.set (ix + 1) M (.slice p3 n3 d3)
   have hcs := chgS (chgS (chg_set X r 0 (.int .i64 (ix + 1))) (chg_set (X.setCell ⟨r, 0, none⟩ (.int .i64 (ix + 1))) r 1 (.int .i64 M))) (chg_set ((X.setCell ⟨r, 0, none⟩ (.int .i64 (ix + 1))).setCell ⟨r, 1, none⟩ (.int .i64 M)) r 2 (.slice p3 n3 d3))
   have HBZ := hide (Chg.to_below HBX.out hcs (fun j e => by rw [e]; exact HRB.out))
   refine bodyPost_ret (v := .agg #[.int .i64 (ix + 1), .int .i64 M, (.slice p3 n3 d3)]) (by
    generalize ((X.setCell ⟨r, 0, none⟩ (.int .i64 (ix + 1))).setCell ⟨r, 1, none⟩ (.int .i64 M)).setCell ⟨r, 2, none⟩ (.slice p3 n3 d3) = W9 at hst ⊢
    obtain ⟨m0, m1, m2⟩ := hst.z
    simp [results, Tryz.results31, go_sem, m0, m1, m2]) rfl ?_
   exact ⟨_, _, _, rfl, HIN.out.by_.below HBZ.out, HBZ.out⟩
  ·have e4 : (Q == 4) = false := by simpa using h4
   rw [if_neg h4, if_neg h4]
   rw [hM]
   obtain ⟨Z, hZ⟩ : ∃ q, dtK tm = q := ⟨_, rfl⟩
   have hZ' : wrap64 ((IntKind.u64.wrap tm).tmod 2) = Z := hZ
   rw [hZ] at HDT ⊢
   have hMZ : IntKind.i64.wrap (M + Z) = M + Z := IntWalk.i64_in _ (by have := HDT.out; omega)
   have HPU := hide (putP_is (rput_any (HCM.out.below HBX.out)))
   unfold cmV at HPU
   dsimp only at HPU
   go_enter Tryz.func31, Tryz.ntmps31
   go_wp2_with fail
   refine HPU.out.mono ?_
   rintro e w8 ⟨p8, n8, d8, rfl, hby8, hb8⟩
   have HB8 : Hid (Below w.heap.size w w8) := hide (HBX.out.trans (hb8.mono HBX.out.size))
   have HR2 := hide (HR1.out.below hb8)
   have HBY := hide hby8
   have hrr0 := (hb8.block b (Array.getElem?_eq_some_iff.1 HR0.out).1).trans HR0.out
   clear z0 z1 z2 f0 f1 f2 x0 x1 x2 x3 x4 x5 x6 x7 x8 x9 x10
   have x7 : w8.cell? ⟨b, 7, none⟩ = some (.int .i64 tm) := cell_of_row w8 b 7 _ 57 (0, 0) hrr0
   obtain ⟨z0, z1, z2⟩ := HR2.out.z
   obtain ⟨f0, f1, f2⟩ := HR2.out.f
   clear hby8 hb8 HPU hrr0
   go_wp2_with fail
   have hst := HR2.out.set (ix + 1) (M + Z) (.slice p8 n8 d8)
   have hcs := chgS (chgS (chg_set w8 r 0 (.int .i64 (ix + 1))) (chg_set (w8.setCell ⟨r, 0, none⟩ (.int .i64 (ix + 1))) r 1 (.int .i64 (M + Z)))) (chg_set ((w8.setCell ⟨r, 0, none⟩ (.int .i64 (ix + 1))).setCell ⟨r, 1, none⟩ (.int .i64 (M + Z))) r 2 (.slice p8 n8 d8))
   have HBZ := hide (Chg.to_below HB8.out hcs (fun j e => by rw [e]; exact HRB.out))
   refine bodyPost_ret (v := .agg #[.int .i64 (ix + 1), .int .i64 (M + Z), (.slice p8 n8 d8)]) (by
    generalize ((w8.setCell ⟨r, 0, none⟩ (.int .i64 (ix + 1))).setCell ⟨r, 1, none⟩ (.int .i64 (M + Z))).setCell ⟨r, 2, none⟩ (.slice p8 n8 d8) = W9 at hst ⊢
    obtain ⟨m0, m1, m2⟩ := hst.z
    simp [results, Tryz.results31, go_sem, m0, m1, m2]) rfl ?_
   exact ⟨_, _, _, rfl, (HBY.out.byOff hcs (by have := HR1.out.lt; omega)), HBZ.out⟩
end Go.Proofs.YtionbmlicmibgaaGreatDoor
