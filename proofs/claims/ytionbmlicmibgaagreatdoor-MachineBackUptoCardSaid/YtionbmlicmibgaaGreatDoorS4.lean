import Derived.Shelf.SlSortCmp.NoneTotal
import Derived.Deep.RegionHeld3
import Derived.Deep.AppendLies
import Derived.Deep.DrawnRows
import Derived.Test.YtionbmlicmibgaaGreatDoorS3
import Derived.Test.YtionbmlicmibgaaGreatDoorS2
namespace Go.Proofs.YtionbmlicmibgaaGreatDoor
set_option linter.unusedVariables false
set_option linter.unusedSimpArgs false
open Go.RowKit Go.Sort
def firstNZ : List Int → Int
  | [] => 0
  | x :: r => if x ≠ 0 then x else firstNZ r
theorem firstNZ_drop {l : List Int} {k : Nat} {z : Int} (h : l[k]? = some z) : firstNZ (l.drop k) = if z ≠ 0 then z else firstNZ (l.drop (k + 1)) := by
  have hk := (List.getElem?_eq_some_iff.1 h).1
  rw [List.drop_eq_getElem_cons hk]
  rw [List.getElem?_eq_getElem hk] at h
  injection h with h
  rw [h]
  rfl
set_option maxRecDepth 200000 in
set_option maxHeartbeats 1100000 in
theorem cmpOr_any {w : World} {b n : Nat} {zs : List Int} (hn : zs.length = n) (hn6 : n ≤ 1000) (hc : ∀ (k : Nat) z, zs[k]? = some z → w.cell? ⟨b, k, none⟩ = some (.int .i64 z)) :
    Calls Tryz.prog 224 #[.slice (some ⟨b, 0, none⟩) n n] w fun e w' => e = .returned (.int .i64 (firstNZ zs)) ∧ w' = w := by
  have HC := hide hc
  have HN := hide hn
  clear hc hn
  go_enter Tryz.func224, Tryz.ntmps224
  go_wp2_with fail
  go_loop [5, 8] (fun _ i => ∃ k : Nat, k ≤ n ∧ i = .int .i64 k ∧ Hid (firstNZ (zs.drop k) = firstNZ zs)) (fun _ i => n - (intOf i).toNat)
  case atStart => exact ⟨0, by omega, rfl, hide rfl⟩
  case round =>
    obtain ⟨k, hk, rfl, H⟩ := hrel
    by_cases hlt : (k : Int) < (n : Int)
    · obtain ⟨z, hz⟩ : ∃ z, zs[k]? = some z := ⟨_, List.getElem?_eq_getElem (by have := HN.out; omega)⟩
      have hcell := HC.out k z hz
      have HF := hide ((firstNZ_drop hz).symm.trans H.out)
      clear hz H
      by_cases h0 : z = 0
      · subst h0
        go_wp2
        go_round
        case rel => exact ⟨k + 1, by omega, by go_num, hide (by have := HF.out; rwa [if_neg (by simp)] at this)⟩
        case measure => simp [intOf]; omega
      · go_wp2
        go_ret
        refine ⟨?_, rfl⟩
        have := HF.out
        rw [if_pos h0] at this
        rw [this]
        rfl
    · go_wp2
      go_ret
      refine ⟨?_, rfl⟩
      have := H.out
      rw [List.drop_eq_nil_of_le (by have := HN.out; omega)] at this
      rw [← this]
      rfl
theorem cmpOr_lit (w : World) (a0 a1 a2 a3 a4 a5 : Int) : Calls Tryz.prog 224 #[.slice (some ⟨w.heap.size, 0, none⟩) 6 6] (w.alloc (.cells #[.int .i64 a0, .int .i64 a1, .int .i64 a2, .int .i64 a3, .int .i64 a4, .int .i64 a5] 3)) fun e w' =>
    e = .returned (.int .i64 (firstNZ [a0, a1, a2, a3, a4, a5])) ∧ w' = w.alloc (.cells #[.int .i64 a0, .int .i64 a1, .int .i64 a2, .int .i64 a3, .int .i64 a4, .int .i64 a5] 3) := by
  refine cmpOr_any (n := 6) rfl (by decide) fun k z hk => ?_
  rw [cell_of_row _ w.heap.size k _ 3 (0, 0) (heap_alloc_new w _)]
  match k, hk with
  | 0, hk => simp at hk; subst hk; rfl
  | 1, hk => simp at hk; subst hk; rfl
  | 2, hk => simp at hk; subst hk; rfl
  | 3, hk => simp at hk; subst hk; rfl
  | 4, hk => simp at hk; subst hk; rfl
  | 5, hk => simp at hk; subst hk; rfl
theorem cmpOr_litD (w : World) (a0 a1 a2 a3 a4 a5 : Int) : Calls Tryz.prog 224 #[.slice (some ⟨w.heap.size, 0, none⟩) 6 6] (w.alloc (.cells #[.int .i64 a0, .int .i64 a1, .int .i64 a2, .int .i64 a3, .int .i64 a4, .int .i64 a5] 3)).drew fun e w' =>
    e = .returned (.int .i64 (firstNZ [a0, a1, a2, a3, a4, a5])) ∧ w' = (w.alloc (.cells #[.int .i64 a0, .int .i64 a1, .int .i64 a2, .int .i64 a3, .int .i64 a4, .int .i64 a5] 3)).drew := by
  refine cmpOr_any (n := 6) rfl (by decide) fun k z hk => ?_
  show (w.alloc (.cells #[.int .i64 a0, .int .i64 a1, .int .i64 a2, .int .i64 a3, .int .i64 a4, .int .i64 a5] 3)).cell? _ = _
  rw [cell_of_row _ w.heap.size k _ 3 (0, 0) (heap_alloc_new w _)]
  match k, hk with
  | 0, hk => simp at hk; subst hk; rfl
  | 1, hk => simp at hk; subst hk; rfl
  | 2, hk => simp at hk; subst hk; rfl
  | 3, hk => simp at hk; subst hk; rfl
  | 4, hk => simp at hk; subst hk; rfl
  | 5, hk => simp at hk; subst hk; rfl
theorem cmpS_first (x y : Sp) : cmpS x y = firstNZ [Lib.compareInt x.t y.t, Lib.compareInt x.s y.s, Lib.compareInt x.i y.i, Lib.compareInt x.p y.p, Lib.compareInt x.e y.e, Lib.compareBytes x.nl y.nl] := by
  unfold cmpS lexC firstNZ firstNZ firstNZ firstNZ firstNZ firstNZ firstNZ
  dsimp only
  (repeat' split) <;> first | rfl | omega
set_option maxRecDepth 200000 in
set_option maxHeartbeats 4000000 in
theorem compare_any (x y : Sp) (W : World) : Calls Tryz.prog 215 #[spV x, spV y] W fun e w' => e = .returned (.int .i64 (cmpS x y)) ∧ ∃ q os, w' = grow (W.drewN q) os := by
  rw [cmpS_first]
  obtain ⟨X, hX⟩ : ∃ X, (W.alloc (.cells #[.int .i64 x.t, .int .i64 x.i, .int .i64 x.p, .int .i64 x.s, .int .i64 x.e, .string x.n] 30)).alloc (.cells #[.int .i64 y.t, .int .i64 y.i, .int .i64 y.p, .int .i64 y.s, .int .i64 y.e, .string y.n] 30) = X := ⟨_, rfl⟩
  have hx := (spAt_new W x).below ((Below.refl _ _).alloc (Nat.le_refl _) (.cells #[.int .i64 y.t, .int .i64 y.i, .int .i64 y.p, .int .i64 y.s, .int .i64 y.e, .string y.n] 30))
  have hy := spAt_new (W.alloc (.cells #[.int .i64 x.t, .int .i64 x.i, .int .i64 x.p, .int .i64 x.s, .int .i64 x.e, .string x.n] 30)) y
  rw [hX] at hx hy
  rw [show (W.alloc (.cells #[.int .i64 x.t, .int .i64 x.i, .int .i64 x.p, .int .i64 x.s, .int .i64 x.e, .string x.n] 30)).heap.size = W.heap.size + 1 by simp] at hy
  obtain ⟨h0, h1, h2, h3, h4, h5⟩ := hx.z
  obtain ⟨k0, k1, k2, k3, k4, k5⟩ := hy.z
  have HX := hide hX
  obtain ⟨t, i, p, s, e, n⟩ := x
  obtain ⟨t', i', p', s', e', n'⟩ := y
  unfold spV Sp.nl
  dsimp only at *
  clear hx hy
  have HAL : Hid (∀ o, (X.alloc o).cell? ⟨W.heap.size, 0, none⟩ = some (.int .i64 t) ∧ (X.alloc o).cell? ⟨W.heap.size, 1, none⟩ = some (.int .i64 i) ∧ (X.alloc o).cell? ⟨W.heap.size, 2, none⟩ = some (.int .i64 p) ∧ (X.alloc o).cell? ⟨W.heap.size, 3, none⟩ = some (.int .i64 s) ∧ (X.alloc o).cell? ⟨W.heap.size, 4, none⟩ = some (.int .i64 e) ∧ (X.alloc o).cell? ⟨W.heap.size, 5, none⟩ = some (.string n) ∧ (X.alloc o).cell? ⟨W.heap.size + 1, 0, none⟩ = some (.int .i64 t') ∧ (X.alloc o).cell? ⟨W.heap.size + 1, 1, none⟩ = some (.int .i64 i') ∧ (X.alloc o).cell? ⟨W.heap.size + 1, 2, none⟩ = some (.int .i64 p') ∧ (X.alloc o).cell? ⟨W.heap.size + 1, 3, none⟩ = some (.int .i64 s') ∧ (X.alloc o).cell? ⟨W.heap.size + 1, 4, none⟩ = some (.int .i64 e') ∧ (X.alloc o).cell? ⟨W.heap.size + 1, 5, none⟩ = some (.string n')) := hide fun o => ⟨Lib.cell?_alloc_some _ h0, Lib.cell?_alloc_some _ h1, Lib.cell?_alloc_some _ h2, Lib.cell?_alloc_some _ h3, Lib.cell?_alloc_some _ h4, Lib.cell?_alloc_some _ h5, Lib.cell?_alloc_some _ k0, Lib.cell?_alloc_some _ k1, Lib.cell?_alloc_some _ k2, Lib.cell?_alloc_some _ k3, Lib.cell?_alloc_some _ k4, Lib.cell?_alloc_some _ k5⟩
  go_enter Tryz.func215, Tryz.ntmps215
  go_wp2_with fail
  clear hX
  go_region_held3 (fun V => V.cell? ⟨W.heap.size, 0, none⟩ = some (.int .i64 t) ∧ V.cell? ⟨W.heap.size, 1, none⟩ = some (.int .i64 i) ∧ V.cell? ⟨W.heap.size, 2, none⟩ = some (.int .i64 p) ∧ V.cell? ⟨W.heap.size, 3, none⟩ = some (.int .i64 s) ∧ V.cell? ⟨W.heap.size, 4, none⟩ = some (.int .i64 e) ∧ V.cell? ⟨W.heap.size, 5, none⟩ = some (.string n) ∧ V.cell? ⟨W.heap.size + 1, 0, none⟩ = some (.int .i64 t') ∧ V.cell? ⟨W.heap.size + 1, 1, none⟩ = some (.int .i64 i') ∧ V.cell? ⟨W.heap.size + 1, 2, none⟩ = some (.int .i64 p') ∧ V.cell? ⟨W.heap.size + 1, 3, none⟩ = some (.int .i64 s') ∧ V.cell? ⟨W.heap.size + 1, 4, none⟩ = some (.int .i64 e') ∧ V.cell? ⟨W.heap.size + 1, 5, none⟩ = some (.string n')) (first | exact ⟨h0, h1, h2, h3, h4, h5, k0, k1, k2, k3, k4, k5⟩ | exact HAL.out _) (first
    | (go_at_call 225; refine (Tryz.cmp_Compare_int _ _ _).mono ?_; rintro e v ⟨rfl, rfl⟩)
    | (go_at_call 226; refine (Tryz.strings_Compare _ _ _).mono ?_; rintro e v ⟨rfl, rfl⟩)
    | (go_at_call 224; refine (cmpOr_litD _ _ _ _ _ _ _).mono ?_; rintro e v ⟨rfl, rfl⟩)
    | (go_at_call 224; refine (cmpOr_lit _ _ _ _ _ _ _).mono ?_; rintro e v ⟨rfl, rfl⟩))
  all_goals
    go_wp2
    go_ret
    first
      | exact ⟨rfl, 1, _, by rw [← HX.out, alloc_eq_grow, alloc_eq_grow, alloc_eq_grow, grow_grow, grow_grow]; rfl⟩
      | exact ⟨rfl, 0, _, by rw [← HX.out, alloc_eq_grow, alloc_eq_grow, alloc_eq_grow, grow_grow, grow_grow]; rfl⟩
end Go.Proofs.YtionbmlicmibgaaGreatDoor
namespace Go.Proofs.YtionbmlicmibgaaGreatDoor
set_option linter.unusedVariables false
set_option linter.unusedSimpArgs false
open Go.RowKit Go.Sort Go.Lib
theorem holdsSp {B : Nat} {w : World} {g cap : Nat} {l : List Sp} (h : OwnS B w (.slice (some ⟨g, 0, none⟩) l.length cap) l) : HoldsK spC 6 w g 0 l.toArray := by
  obtain ⟨hl, ⟨e, _⟩ | ⟨g', cap', cur, e, hB, hh, hc, hm, hs, ht⟩⟩ := h
  · cases e
  · injection e with e1 e2 e3
    injection e1 with e1
    injection e1 with e1
    subst e1 e3
    intro j hj
    rw [size_flatK] at hj
    have hj' : j < l.length * 6 := by simpa using hj
    refine ⟨?_, by rw [Nat.zero_add]; exact frozen_of_row w g j cur 30 hh⟩
    rw [get_flatK _ _ _ _ hj, Nat.zero_add, cell_of_row w g j cur 30 (0, 0) hh]
    have hx : l[j / 6]? = some (l[j / 6]'(by omega)) := List.getElem?_eq_getElem _
    have h1 := flat_at l (j / 6) (j % 6) hx (Nat.mod_lt _ (by omega))
    rw [show j / 6 * 6 + j % 6 = j by omega, ← ht, List.getElem?_take_of_lt (by omega), Array.getElem?_toList] at h1
    rw [h1]
    have h2 : l.toArray[j / 6]! = l[j / 6]'(by omega) := by
      rw [getElem!_pos l.toArray (j / 6) (by simp; omega)]
      simp
    rw [h2]
    rw [List.getElem?_eq_getElem (by rw [spC_length]; omega)]
    congr 1
    rw [getElem!_pos (spC (l[j / 6]'(by omega))) (j % 6) (by rw [spC_length]; omega)]
    rfl
theorem row_put {w : World} {g : Nat} {cur : Array Value} {e : TypeId} (h : w.heap[g]? = some (Obj.cells cur e (0, 0))) (d : Array Sp) :
    (putRowK spC 6 w g 0 d).heap[g]? = some (Obj.cells (putCells id 0 (flatK spC 6 d) cur) e (0, 0)) := by
  unfold putRowK putRow mapBlock
  simp [Array.getElem?_modify, h, onCells]
theorem row_put_other {w : World} {g k : Nat} (d : Array Sp) (hk : k ≠ g) : (putRowK spC 6 w g 0 d).heap[k]? = w.heap[k]? := by
  unfold putRowK putRow mapBlock
  simp only [Array.getElem?_modify]
  rw [if_neg (Ne.symm hk)]
theorem sorted_own {B : Nat} {w : World} {g cap n : Nat} {l m : List Sp} {os : Array Obj} (h : OwnS B w (.slice (some ⟨g, 0, none⟩) l.length cap) l) (hml : m.length = l.length) :
    OwnS B (grow (putRowK spC 6 (Sort.ahead w n) g 0 m.toArray) os) (.slice (some ⟨g, 0, none⟩) l.length cap) m ∧ w.grownBy (grow (putRowK spC 6 (Sort.ahead w n) g 0 m.toArray) os) (some g) := by
  have hold := holdsSp h
  obtain ⟨hl, ⟨e, _⟩ | ⟨g', cap', cur, e, hB, hh, hc, hm, hs, ht⟩⟩ := h
  · cases e
  · injection e with e1 e2 e3
    injection e1 with e1
    injection e1 with e1
    subst e1 e3
    have hg : g < w.heap.size := (Array.getElem?_eq_some_iff.1 hh).1
    have hh' : (Sort.ahead w n).heap[g]? = some (Obj.cells cur 30 (0, 0)) := hh
    have hp := row_put hh' m.toArray
    have hgs : g < (putRowK spC 6 (Sort.ahead w n) g 0 m.toArray).heap.size := (Array.getElem?_eq_some_iff.1 hp).1
    have hgr : (grow (putRowK spC 6 (Sort.ahead w n) g 0 m.toArray) os).heap[g]? = some (Obj.cells (putCells id 0 (flatK spC 6 m.toArray) cur) 30 (0, 0)) := by
      show ((putRowK spC 6 (Sort.ahead w n) g 0 m.toArray).heap ++ os)[g]? = _
      rw [Array.getElem?_append_left hgs, hp]
    have hH := holdsK_grow spC 6 _ os g 0 _ hgs (holdsK_putRowK spC 6 (Sort.ahead w n) g 0 l.toArray m.toArray (holdsK_ahead spC 6 w n g 0 _ hold) (by simp [hml]))
    refine ⟨⟨by rw [flat_len], .inr ⟨g, cap, _, by rw [hml], hB, hgr, by omega, hm, by simp [putCells, hs], ?_⟩⟩, ⟨rfl, rfl, rfl, ?_, fun k hk hne => ?_⟩⟩
    · apply List.ext_getElem?
      intro j
      by_cases hj : j < l.length * 6
      · rw [List.getElem?_take_of_lt (by omega), Array.getElem?_toList]
        have hcell := (hH.cell (i := j / 6) (c := j % 6) (by simp; omega) (Nat.mod_lt _ (by omega))).1
        rw [cell_of_row _ g _ _ 30 (0, 0) hgr, Nat.zero_add, show j / 6 * 6 + j % 6 = j by omega] at hcell
        rw [hcell]
        have hx : m[j / 6]? = some (m[j / 6]'(by omega)) := List.getElem?_eq_getElem _
        have h1 := flat_at m (j / 6) (j % 6) hx (Nat.mod_lt _ (by omega))
        rw [show j / 6 * 6 + j % 6 = j by omega] at h1
        rw [h1]
        have h2 : m.toArray[j / 6]! = m[j / 6]'(by omega) := by
          rw [getElem!_pos m.toArray (j / 6) (by simp; omega)]
          simp
        rw [h2, List.getElem?_eq_getElem (by rw [spC_length]; omega), getElem!_pos (spC (m[j / 6]'(by omega))) (j % 6) (by rw [spC_length]; omega)]
      · rw [List.getElem?_eq_none (by rw [List.length_take]; omega), List.getElem?_eq_none (by rw [flat_len]; omega)]
    · show w.heap.size ≤ ((putRowK spC 6 (Sort.ahead w n) g 0 m.toArray).heap ++ os).size
      have : (putRowK spC 6 (Sort.ahead w n) g 0 m.toArray).heap.size = w.heap.size := size_putRow _ _ _ _ _
      rw [Array.size_append]
      omega
    · have hkg : k ≠ g := fun e => hne (by rw [e])
      have hks : k < (putRowK spC 6 (Sort.ahead w n) g 0 m.toArray).heap.size := by
        have : (putRowK spC 6 (Sort.ahead w n) g 0 m.toArray).heap.size = w.heap.size := size_putRow _ _ _ _ _
        omega
      show ((putRowK spC 6 (Sort.ahead w n) g 0 m.toArray).heap ++ os)[k]? = _
      rw [Array.getElem?_append_left hks, row_put_other _ hkg]
      rfl
theorem cmp_lays (blk off size : Nat) (w : World) : CmpLays Tryz.prog 215 #[] spC 6 cmpS blk off size w := fun _ _ _ _ x y => compare_any x y _
set_option maxRecDepth 200000 in
set_option maxHeartbeats 1100000 in
theorem sortFunc_any {B : Nat} {w : World} {v : Value} {l : List Sp} (h : OwnS B w v l) (hl : l.length ≤ 1100000) :
    Calls Tryz.prog 214 #[v, .func (.func 215) #[] #[]] w fun e w' => e = .returned (.tuple #[]) ∧ OwnS B w' v (sortS l) ∧ w.grownBy w' v.ownBlock := by
  have h' := h
  obtain ⟨hll, ⟨rfl, h0⟩ | ⟨g, cap, cur, rfl, hB, hh, hc, hm, hs, ht⟩⟩ := h
  · obtain rfl : l = [] := List.eq_nil_of_length_eq_zero h0
    exact (AnyF.slices_SortFunc_none { Tryz.sortSp with } none 0 (.func (.func 215) #[] #[]) w).mono fun e w' ⟨he, hw⟩ => ⟨he, by rw [hw, show sortS [] = [] by simp [sortS]]; exact h', by rw [hw]; exact World.grownBy.refl _ _⟩
  · have eg : ∀ args w, (callFunc 215 args).run Tryz.prog w = .ok (.enter 215 args) w := enters_of Tryz.func215 (by kernel_rfl) rfl
    have := AnyQ.slices_SortFunc_total Tryz.sortSp 6 Tryz.isAgg30 Tryz.sizeOf30 spC spC_length spC_one cmpS ltS_swo 215 #[] g 0 cap l.toArray w eg (cmp_lays g 0 _ w) (holdsSp h') (Array.getElem?_eq_some_iff.1 hh).1 (by simp; omega) ltS_tot
    refine Calls.mono (show Calls Tryz.prog 214 #[.slice (some ⟨g, 0, none⟩) l.length cap, .func (.func 215) #[] #[]] w _ from this) ?_
    rintro e w' ⟨he, n, os, rfl⟩
    have hs2 : (l.toArray.toList.mergeSort fun x y => !(ltOf cmpS) y x) = sortS l := rfl
    rw [hs2]
    obtain ⟨h1, h2⟩ := sorted_own (n := n) (os := os) h' (sortS_length l)
    refine ⟨he, ?_, h2⟩
    exact h1
end Go.Proofs.YtionbmlicmibgaaGreatDoor
namespace Go.Proofs.YtionbmlicmibgaaGreatDoor
set_option linter.unusedVariables false
set_option linter.unusedSimpArgs false
open Go.RowKit Go.Sort
set_option maxRecDepth 200000 in
set_option maxHeartbeats 1100000 in
theorem sort_any {w : World} {v : Value} {l : List Sp} (hv : Sps w v l) (hl : l.length ≤ 1100000) : Calls Tryz.prog 200 #[v] w fun e w' => ∃ v', e = .returned v' ∧ OwnS w.heap.size w' v' (sortS l) ∧ Below w.heap.size w w' := by
  obtain ⟨p, n, c, rfl⟩ := hv.sl
  have HV := hide hv
  clear hv
  go_enter Tryz.func200, Tryz.ntmps200
  go_wp2_with fail
  refine (cloneSp_any HV.out hl).mono ?_
  rintro e1 w1 ⟨v1, rfl, ho1, hb1⟩
  obtain ⟨p1, n1, c1, rfl⟩ := ho1.sps.sl
  have HO := hide ho1
  have HB := hide hb1
  clear ho1 hb1
  go_wp2_with fail
  refine (sortFunc_any HO.out hl).mono ?_
  rintro e2 w2 ⟨rfl, ho2, hg2⟩
  have HO2 := hide ho2
  have HG2 := hide hg2
  clear ho2 hg2
  go_wp2
  go_ret
  exact ⟨_, rfl, HO2.out, HB.out.grown HG2.out HB.out.size (fun k hk => (HO.out.lt k hk).1)⟩
end Go.Proofs.YtionbmlicmibgaaGreatDoor
namespace Go.Proofs.YtionbmlicmibgaaGreatDoor
set_option linter.unusedVariables false
set_option linter.unusedSimpArgs false
open Go.RowKit
theorem wpList_pushH {w : World} {ops : Array Oper} {rest : List Oper} {o : Oper} {a : Act} {Q : Exit → Act → World → Prop} (hgd : o.guard = none) (s t : Operand)
    (ho : o.op = .call { callee := .builtin .append, args := #[s, t], argTypes := #[22, 22] }) (hty : o.type = 22) {B : Nat} {v : Value} {l : List Sp} (x : Sp) {H : Nat}
    (hs : a.eval s = v) (ht : a.eval t = .slice (some ⟨H, 0, none⟩) 1 1) (hH : H = w.heap.size) (h : OwnS B w v l) (hB : B ≤ w.heap.size) (hn : l.length ≤ 1100000)
    (hK : ∀ v' w', OwnS B w' v' (l ++ [x]) → Below B w w' → w.grownBy w' v.ownBlock → wpList Tryz.prog ops Q rest (a.put o.dst v') w') : wpList Tryz.prog ops Q (o :: rest) a (w.alloc (.cells #[.int .i64 x.t, .int .i64 x.i, .int .i64 x.p, .int .i64 x.s, .int .i64 x.e, .string x.n] 30)) := by
  subst hH
  exact wpList_push hgd s t ho hty x hs ht h hB hn hK
theorem same_int (a b : Int) : (Lit.int .i64 a).sameKey (.int .i64 b) = decide (a = b) := by
  by_cases h : a = b
  · subst h
    rw [WideAt.sameKey_self (isKeyI _)]
    simp
  · rw [Maps.sameKey_ne (fun e => h (by injection e))]
    simp [h]
def doneS (L : List Sp) (left : Lit → Bool) : List Sp := L.filter fun x => !left (.int .i64 x.i)
theorem doneS_step : ∀ {L : List Sp}, (L.Pairwise fun x y => x.i ≠ y.i) → ∀ {left : Lit → Bool} {x : Sp}, x ∈ L → left (.int .i64 x.i) = true → (x :: doneS L left).Perm (doneS L fun z => left z && !z.sameKey (.int .i64 x.i))
  | [], _, left, x, hx, _ => by simp at hx
  | y :: r, hid, left, x, hx, hl => by
    obtain ⟨h1, h2⟩ := List.pairwise_cons.1 hid
    unfold doneS
    by_cases hxy : y.i = x.i
    · have hxy' : x = y := by
        rcases List.mem_cons.1 hx with e | hx
        · exact e
        · exact absurd hxy (h1 x hx)
      subst hxy'
      rw [List.filter_cons_of_neg (by simp [hl]), List.filter_cons_of_pos (by simp [same_int])]
      have e : r.filter (fun p => !(left (.int .i64 p.i) && !(Lit.int .i64 p.i).sameKey (.int .i64 x.i))) = r.filter (fun p => !left (.int .i64 p.i)) := by
        apply List.filter_congr
        intro q hq
        have := h1 q hq
        have hne : ¬ q.i = x.i := fun e => this e.symm
        simp [same_int, hne]
      rw [e]
    · have hx' : x ∈ r := by
        rcases List.mem_cons.1 hx with e | hx
        · exact absurd (by rw [e]) hxy
        · exact hx
      have ih := doneS_step h2 hx' hl
      unfold doneS at ih
      by_cases hy : left (.int .i64 y.i) = true
      · rw [List.filter_cons_of_neg (by simp [hy]), List.filter_cons_of_neg (by simp [same_int, hy, hxy])]
        exact ih
      · rw [List.filter_cons_of_pos (by simp [hy]), List.filter_cons_of_pos (by simp [hy])]
        exact (List.Perm.swap y x _).trans (ih.cons y)
theorem doneS_all {L : List Sp} {left : Lit → Bool} (h : ∀ k, left k = false) : doneS L left = L := List.filter_eq_self.2 fun p _ => by rw [h]; rfl
theorem doneS_none {L : List Sp} {left : Lit → Bool} (h : ∀ x ∈ L, left (.int .i64 x.i) = true) : doneS L left = [] := List.filter_eq_nil_iff.2 fun p hp => by rw [h p hp]; simp
theorem doneS_le (L : List Sp) (left : Lit → Bool) : (doneS L left).length ≤ L.length := List.length_filter_le _ _
theorem keyI_inv {key : Value} {kl : Lit} (h : keyOf Tryz.prog 3 key = some kl) : ∃ x : Int, key = .int .i64 x := by
  obtain ⟨x, rfl, _⟩ := Maps.keyOf_int_inv Tryz.underlying3 h
  exact ⟨x, rfl⟩
theorem heldA_agg {v : Value} {y : DataW Value × List MemPlace} (h : heldA v = some y) : (∃ c, v = .agg c) ∧ y.1 = .held v := by
  cases v <;> simp [heldA] at h
  subst h
  exact ⟨⟨_, rfl⟩, rfl⟩
theorem BagIs.came {w : World} {b : Nat} {L : List Sp} {D : DataW Value} (h : BagIs w b L D) {k : Int} {c : Array Value} {kl : Lit} {y : DataW Value × List MemPlace}
    (hk : keyOf Tryz.prog 3 (.int .i64 k) = some kl) (hv : heldA (.agg c) = some y) (hat : ∀ zd, D.atKey kl zd = y.1) : ∃ x, x ∈ L ∧ k = x.i ∧ kl = .int .i64 x.i ∧ c = (spC x).toArray := by
  obtain ⟨k', e, hkl, hwf⟩ := Maps.keyOf_int_inv Tryz.underlying3 hk
  injection e with _ e
  subst e
  subst hkl
  have hh := Maps.has_true_of_atKey hat
  rw [h.keys] at hh
  obtain ⟨x, hx⟩ := Option.isSome_iff_exists.1 hh
  have e1 := h.vals _ x hx .nil
  rw [hat, (heldA_agg hv).2] at e1
  injection e1 with e1
  injection e1 with e1
  obtain ⟨h1, h2⟩ := fnd_mem hx
  exact ⟨x, h1, h2.symm, by rw [h2], e1⟩
def endP : List Sp → Int
  | [] => 0
  | x :: r => max x.e (endP r)
theorem endP_perm {L M : List Sp} (h : L.Perm M) : endP L = endP M := by
  induction h with
  | nil => rfl
  | cons x _ ih => unfold endP; rw [ih]
  | swap x y l => unfold endP; unfold endP; omega
  | trans _ _ ih1 ih2 => exact ih1.trans ih2
theorem endP_le {L : List Sp} (h : ∀ x ∈ L, x.e ≤ 1099511627776) : 0 ≤ endP L ∧ endP L ≤ 1099511627776 := by
  induction L with
  | nil => exact ⟨Int.le_refl _, by decide⟩
  | cons x r ih =>
    have := ih fun y hy => h y (List.mem_cons_of_mem _ hy)
    have := h x (List.mem_cons_self ..)
    unfold endP
    omega
theorem ranges_chgB {H : Type} {P : Program} {k : TypeId} {R : Value → Option (DataW H × List MemPlace)} {w w' : World} {b r n : Nat} {D : DataW H} {left : Lit → Bool} {cnt : Nat} {row : Option Nat} (h : w.ranges P k R b r n D left cnt) (hc : w.grownBy w' row) (hb : row ≠ some b) (hr : row ≠ some r) : w'.ranges P k R b r n D left cnt := by
  have h1 := h.owns.lt
  have h2 := h.lt
  obtain ⟨es, clock, since, seen, c0, hb', F, hs, hD, hr', rest⟩ := h
  exact ⟨es, clock, since, seen, c0, (hc.block b h1 (fun e => hb e.symm)).trans hb', F, hs, hD, (hc.block r h2 (fun e => hr e.symm)).trans hr', rest⟩
set_option maxRecDepth 200000 in
set_option maxHeartbeats 1100000 in
theorem lastEnd_any {w : World} {b : Nat} {L : List Sp} {D : DataW Value} (h : BagIs w b L D) (he : ∀ x ∈ L, 0 ≤ x.e ∧ x.e ≤ 1099511627776) :
    Calls Tryz.prog 199 #[.map (some b)] w fun e w' => e = .returned (.int .i64 (endP L)) ∧ Below w.heap.size w w' := by
  have H := hide h
  have hown := h.map
  have HE := hide he
  clear h he
  go_enter Tryz.func199, Tryz.ntmps199
  go_wp2_with (first | (at_range; refine wpList_range_own _ rfl _ 230 rfl 3 30 intK Tryz.underlying230 _ b L.length D rfl hown ?_; intro w0 hrg0 hg0 hs0) | go_in)
  go_frame
  have hB0 : Below w.heap.size w w0 := ⟨hg0.os, hg0.tape, hg0.output, hg0.size, fun k hk => hg0.block k hk (by simp)⟩
  have hd0 : doneS L (Maps.has D) = [] := doneS_none fun p hp => by
    rw [H.out.keys, fnd_of H.out.ids hp]
    rfl
  have HRG := hide hrg0
  have HB0 := hide hB0
  have HD0 := hide hd0
  clear hrg0 hg0 hB0 hd0 hs0 hown
  go_loopw [3] (fun n wr => ∃ left cnt, wr.ranges Tryz.prog 3 heldA b w.heap.size L.length D left cnt ∧ n = .int .i64 (endP (doneS L left)) ∧ Below w.heap.size w wr) (fun _ wr => wr.rangeLeft b w.heap.size)
  case atStart => exact ⟨_, _, HRG.out, by rw [HD0.out]; rfl, HB0.out⟩
  case round =>
    obtain ⟨left, cnt, hrg, rfl, hB⟩ := hrel
    obtain ⟨hle0, hle⟩ := endP_le (L := doneS L left) fun x hx => (HE.out x (List.mem_filter.1 hx).1).2
    obtain ⟨m, hm⟩ : ∃ m, endP (doneS L left) = m := ⟨_, rfl⟩
    rw [hm] at hle hle0
    rw [hm]
    have HM := hide hm
    have HB := hide hB
    have HRG2 := hide hrg
    clear hB hm
    go_wp2_with (first | (at_next; refine wpList_next_ranges _ rfl _ rfl 3 intK heldA (Value.int .i64) Value.agg (fun key kl h => keyI_inv h) (fun v y h => (heldA_agg h).1) b w.heap.size L.length D left cnt rfl hrg ?_ ?_) | go_in)
    · intro hc0 hl0
      have hda := doneS_all (L := L) hl0
      rw [hda] at HM
      clear hrg hda
      go_wp2
      go_ret
      exact ⟨by rw [HM.out]; rfl, HB.out⟩
    · intro k c kl y1 ps w1 cnt1 hkey hlk hv hat hrg1 hlt hg1 hs1 hen
      obtain ⟨x, hx, rfl, rfl, rfl⟩ := H.out.came (y := (y1, ps)) hkey hv hat
      have hst := endP_perm (doneS_step H.out.ids hx hlk)
      have hB1 := HB.out.grown hg1 HB.out.size (fun k hk => by injection hk with hk; omega)
      obtain ⟨hx0, hx1⟩ := HE.out x hx
      have HS : Hid (endP (doneS L fun z => left z && !z.sameKey (.int .i64 x.i)) = max x.e m) := by
        rw [← hst]
        unfold endP
        rw [HM.out]
        exact rfl
      have HR1 := hide hrg1
      have HB1 := hide hB1
      have HLT := hide hlt
      obtain ⟨t, i, p, s, e, nm⟩ := x
      unfold spC at *
      dsimp only at *
      clear hst hrg1 hB1 hrg hkey hv hat hlk hg1 hs1 hlt hx
      by_cases hmx : m < e
      all_goals
        go_wp2
        go_roundw
        case rel => exact ⟨_, _, ranges_chgB HR1.out (World.grownBy_alloc w1 _ none) (by simp) (by simp), by rw [HS.out]; first | rfl | (congr 1; omega), HB1.out.alloc HB1.out.size _⟩
        case measure => rw [(ranges_chgB HR1.out (World.grownBy_alloc w1 _ none) (by simp) (by simp)).left_eq, HRG2.out.left_eq]; exact HLT.out
set_option maxRecDepth 200000 in
set_option maxHeartbeats 1100000 in
theorem sorted_any {w : World} {b : Nat} {L : List Sp} {D : DataW Value} (h : BagIs w b L D) (hL : L.length ≤ 64) :
    Calls Tryz.prog 189 #[.map (some b)] w fun e w' => ∃ v', e = .returned v' ∧ OwnS w.heap.size w' v' (sortS L) ∧ Below w.heap.size w w' := by
  have H := hide h
  have hown := h.map
  have hbw := h.map.lt
  have HL := hide hL
  clear h hL
  go_enter Tryz.func189, Tryz.ntmps189
  go_wp2_with (first | (at_range; refine wpList_range_own _ rfl _ 230 rfl 3 30 intK Tryz.underlying230 _ b L.length D rfl hown ?_; intro w0 hrg0 hg0 hs0) | go_in)
  go_frame
  have hB0 : Below w.heap.size w w0 := ⟨hg0.os, hg0.tape, hg0.output, hg0.size, fun k hk => hg0.block k hk (by simp)⟩
  have hd0 : doneS L (Maps.has D) = [] := doneS_none fun p hp => by
    rw [H.out.keys, fnd_of H.out.ids hp]
    rfl
  have HRG := hide hrg0
  have HB0 := hide hB0
  have HD0 := hide hd0
  have HS0 := hide hs0
  have HBW := hide hbw
  clear hrg0 hg0 hB0 hd0 hs0 hown hbw
  go_loopw [3] (fun v wr => ∃ left cnt M p n c, v = .slice p n c ∧ wr.ranges Tryz.prog 3 heldA b w.heap.size L.length D left cnt ∧ Hid (OwnS (w.heap.size + 1) wr (.slice p n c) M ∧ M.Perm (doneS L left) ∧ Below w.heap.size w wr ∧ w.heap.size + 1 ≤ wr.heap.size)) (fun _ wr => wr.rangeLeft b w.heap.size)
  case atStart => exact ⟨_, _, [], none, 0, 0, rfl, HRG.out, hide ⟨OwnS.nil _ _, by rw [HD0.out], HB0.out, by have := HS0.out; omega⟩⟩
  case round =>
    obtain ⟨left, cnt, M, p, n, c, rfl, hrg, HR⟩ := hrel
    have HRG2 := hide hrg
    go_wp2_with (first | (at_next; refine wpList_next_ranges _ rfl _ rfl 3 intK heldA (Value.int .i64) Value.agg (fun key kl h => keyI_inv h) (fun v y h => (heldA_agg h).1) b w.heap.size L.length D left cnt rfl hrg ?_ ?_) | go_in)
    · intro hc0 hl0
      have hda := doneS_all (L := L) hl0
      have hM : M.Perm L := by have := HR.out.2.1; rwa [hda] at this
      have HM := hide hM
      clear hrg hda hM
      go_wp2_with fail
      refine (sort_any HR.out.1.sps (by have := HM.out.length_eq; have := HL.out; omega)).mono ?_
      rintro e1 w1 ⟨v1, rfl, ho1, hb1⟩
      obtain ⟨p1, n1, c1, rfl⟩ := ho1.sps.sl
      have HO1 := hide ho1
      have HB1 := hide hb1
      clear ho1 hb1
      go_wp2
      go_ret
      refine ⟨_, rfl, ?_, HR.out.2.2.1.trans (HB1.out.mono (by have := HR.out.2.2.2; omega))⟩
      rw [← sortS_of_perm HM.out]
      exact HO1.out.mono (by have := HR.out.2.2.2; omega)
    · intro k c2 kl y1 ps w1 cnt1 hkey hlk hv hat hrg1 hlt hg1 hs1 hen
      obtain ⟨x, hx, rfl, rfl, rfl⟩ := H.out.came (y := (y1, ps)) hkey hv hat
      have hst := doneS_step H.out.ids hx hlk
      have hB1 := HR.out.2.2.1.grown hg1 HR.out.2.2.1.size (fun k hk => by injection hk with hk; omega)
      have ho1 : OwnS (w.heap.size + 1) w1 (.slice p n c) M := HR.out.1.grown hg1 (by
        rcases hvo : (Value.slice p n c).ownBlock with _ | i
        · exact .inl rfl
        · exact .inr fun e => by
            injection e with e
            have := (HR.out.1.lt i hvo).1
            omega)
      have hMl : M.length ≤ 64 := by
        have := HR.out.2.1.length_eq
        have := doneS_le L left
        have := HL.out
        omega
      have hperm := ((List.perm_append_comm (l₁ := M) (l₂ := [x])).trans (HR.out.2.1.cons x)).trans hst
      have HP := hide hperm
      have HSZ := hide hs1
      have HR1 := hide hrg1
      have HB1 := hide hB1
      have HLT := hide hlt
      have HML := hide hMl
      have hROW := World.ownsRow.alloc ho1 (.cells #[.int .i64 x.t, .int .i64 x.i, .int .i64 x.p, .int .i64 x.s, .int .i64 x.e, .string x.n] 30)
      have HROW : Hid (OwnS (w.heap.size + 1) (w1.alloc (.cells #[.int .i64 x.t, .int .i64 x.i, .int .i64 x.p, .int .i64 x.s, .int .i64 x.e, .string x.n] 30)) (.slice p n c) M) := hide hROW
      have HRX := hide (ranges_chgB hrg1 (World.grownBy_alloc w1 (.cells #[.int .i64 x.t, .int .i64 x.i, .int .i64 x.p, .int .i64 x.s, .int .i64 x.e, .string x.n] 30) none) (by simp) (by simp))
      have HBX := hide (hB1.alloc hB1.size (.cells #[.int .i64 x.t, .int .i64 x.i, .int .i64 x.p, .int .i64 x.s, .int .i64 x.e, .string x.n] 30))
      obtain ⟨t, i, q, s, e, nm⟩ := x
      unfold spC at *
      dsimp only at *
      clear hst hrg1 hB1 hrg hkey hv hat hlk hg1 hs1 hlt hx ho1 hMl hperm hROW
      go_wp2_with (at_builtin; go_must (refine wpList_pushH (v := .slice p n c) rfl _ _ rfl rfl ⟨t, i, q, s, e, nm⟩ rfl rfl (by simp) HROW.out (by have := HSZ.out; have := HR.out.2.2.2; simp; omega) (by have := HML.out; omega) ?_); intro v5 w5 ho5 hb5 hg5)
      obtain ⟨p5, n5, c5, rfl⟩ := ho5.sps.sl
      have HR5 := hide (ranges_chgB HRX.out hg5 (fun e => by have := (HROW.out.lt _ e).1; have := HBW.out; omega) (fun e => by have := (HROW.out.lt _ e).1; omega))
      have HO5 := hide ho5
      have HB5 := hide (HBX.out.grown hg5 HBX.out.size (fun k hk => by have := (HROW.out.lt k hk).1; omega))
      have HZ5 := hide hg5.size
      clear ho5 hb5 hg5
      go_wp2
      go_roundw
      case rel => exact ⟨_, _, M ++ [⟨t, i, q, s, e, nm⟩], p5, n5, c5, rfl, HR5.out, hide ⟨HO5.out, HP.out, HB5.out, by have := HZ5.out; have := HR.out.2.2.2; have := HSZ.out; simp at *; omega⟩⟩
      case measure => rw [HR5.out.left_eq, HRG2.out.left_eq]; exact HLT.out
end Go.Proofs.YtionbmlicmibgaaGreatDoor
namespace Go.Proofs.YtionbmlicmibgaaGreatDoor
set_option linter.unusedVariables false
set_option linter.unusedSimpArgs false
open Go.RowKit
theorem BagIs.chg {w w' : World} {b : Nat} {L : List Sp} {D : DataW Value} {T : Nat → Prop} (h : BagIs w b L D) (hc : Chg w w' T) (hb : ¬ T b) : BagIs w' b L D := by
  have hlt := h.map.lt
  obtain ⟨es, clock, h1, rest⟩ := h.map
  exact ⟨⟨es, clock, (hc.block b hlt hb).trans h1, rest⟩, h.size, h.keys, h.vals, h.ids⟩
end Go.Proofs.YtionbmlicmibgaaGreatDoor
namespace Go.Proofs.YtionbmlicmibgaaGreatDoor
set_option linter.unusedVariables false
set_option linter.unusedSimpArgs false
open Go.RowKit
attribute [local go_sem ↓] Go.wp_at_zero Go.wp_at_succ
theorem spans_wf {tr : Int} {L : List Sp} (h : FoOk tr L) {x : Sp} (hx : x ∈ L) : (Lit.int .i64 x.i).wf = true ∧ (Lit.int .i64 x.p).wf = true := by
  obtain ⟨t1, t2, i1, i2, p1, p2, _⟩ := (Sp.ok_iff x).1 (h.ok x hx).1
  exact ⟨WalkArith.wf_i64 (by omega), WalkArith.wf_i64 (by omega)⟩
end Go.Proofs.YtionbmlicmibgaaGreatDoor
namespace Go.Proofs.YtionbmlicmibgaaGreatDoor
set_option linter.unusedVariables false
set_option linter.unusedSimpArgs false
open Go.RowKit
def cnV (c : Cn) : Value := .agg #[.int .i64 (c.add : Nat), .int .i64 (c.same : Nat), .int .i64 (c.other : Nat), .int .i64 (c.cyc : Nat), .int .i64 (c.full : Nat)]
end Go.Proofs.YtionbmlicmibgaaGreatDoor
namespace Go.Proofs.YtionbmlicmibgaaGreatDoor
set_option linter.unusedVariables false
set_option linter.unusedSimpArgs false
open Go.RowKit
theorem run_makeBag (w : World) : (Instr.makeMap 230 none).run Tryz.prog w = .ok (.map (some w.heap.size)) (w.alloc (.map #[] 0)) := by
  kernel_rfl
set_option maxRecDepth 200000 in
set_option maxHeartbeats 1100000 in
theorem new_any {w : World} {tr : Int} (h1 : 1 ≤ tr) (h2 : tr ≤ 1099511627776) : Calls Tryz.prog 212 #[.int .i64 tr] w fun e w' => e = .returned (.pointer (some ⟨w.heap.size + 1, 0, none⟩)) ∧ FoIs w' (w.heap.size + 1) w.heap.size tr [] ∧ Below w.heap.size w w' := by
  have hmk := fun q => run_makeBag (w.drewN q)
  have hmk0 := run_makeBag w
  go_enter Tryz.func212, Tryz.ntmps212
  go_wp2
  go_ret
  have hs : (w.alloc (.map #[] 0)).heap.size = w.heap.size + 1 := by simp
  have b1 := (Below.refl w.heap.size w).alloc (Nat.le_refl _) (.map #[] 0)
  refine ⟨rfl, ⟨?_, ?_, by omega, ⟨_, (bag_new w).grown (World.grownBy_alloc _ _ none) (by simp)⟩, ⟨List.Pairwise.nil, noRing_nil, fun x hx => by simp at hx, by simp⟩⟩, b1.alloc b1.size _⟩
  · rw [← hs]
    exact cell_of_row _ _ 0 _ 232 (0, 0) (heap_alloc_new (w.alloc (.map #[] 0)) _)
  · rw [← hs]
    exact cell_of_row _ _ 1 _ 232 (0, 0) (heap_alloc_new (w.alloc (.map #[] 0)) _)
end Go.Proofs.YtionbmlicmibgaaGreatDoor
