import Derived.Shelf.SlSortCmp.NoneTotal
import Derived.Deep.RegionHeld3
import Derived.Deep.AppendLies
import Derived.Deep.DrawnRows
import Derived.Test.YtionbmlicmibgaaGreatDoorS3
import Derived.Test.YtionbmlicmibgaaGreatDoorS2
namespace Go.Proofs.YtionbmlicmibgaaGreatDoor
set_option linter.unusedVariables false
set_option linter.unusedSimpArgs false
open Go.RowKit Go.Sort
def firstNZ : List Int → Int
  | [] => 0
  | x :: r => if x ≠ 0 then x else firstNZ r
theorem firstNZ_drop {l : List Int} {k : Nat} {z : Int} (h : l[k]? = some z) : firstNZ (l.drop k) = if z ≠ 0 then z else firstNZ (l.drop (k + 1)) := by
  have hk := (List.getElem?_eq_some_iff.1 h).1
  rw [List.drop_eq_getElem_cons hk]
  rw [List.getElem?_eq_getElem hk] at h
  injection h with h
  rw [h]
  rfl
set_option maxRecDepth 200000 in
set_option maxHeartbeats 1100000 in
theorem cmpOr_any {w : World} {b n : Nat} {zs : List Int} (hn : zs.length = n) (hn6 : n ≤ 1000) (hc : ∀ (k : Nat) z, zs[k]? = some z → w.cell? ⟨b, k, none⟩ = some (.int .i64 z)) :
    Calls Tryz.prog 224 #[.slice (some ⟨b, 0, none⟩) n n] w fun e w' => e = .returned (.int .i64 (firstNZ zs)) ∧ w' = w := by
  have HC := hide hc
  have HN := hide hn
  clear hc hn
  go_enter Tryz.func224, Tryz.ntmps224
  go_wp2_with fail
  go_loop [5, 8] (fun _ i => ∃ k : Nat, k ≤ n ∧ i = .int .i64 k ∧ Hid (firstNZ (zs.drop k) = firstNZ zs)) (fun _ i => n - (intOf i).toNat)
  case atStart => exact ⟨0, by omega, rfl, hide rfl⟩
  case round =>
    obtain ⟨k, hk, rfl, H⟩ := hrel
    by_cases hlt : (k : Int) < (n : Int)
    · obtain ⟨z, hz⟩ : ∃ z, zs[k]? = some z := ⟨_, List.getElem?_eq_getElem (by have := HN.out; omega)⟩
      have hcell := HC.out k z hz
      have HF := hide ((firstNZ_drop hz).symm.trans H.out)
      clear hz H
      by_cases h0 : z = 0
      · subst h0
        go_wp2
        go_round
        case rel => exact ⟨k + 1, by omega, by go_num, hide (by have := HF.out; rwa [if_neg (by simp)] at this)⟩
        case measure => simp [intOf]; omega
      · go_wp2
        go_ret
        refine ⟨?_, rfl⟩
        have := HF.out
        rw [if_pos h0] at this
        rw [this]
        rfl
    · go_wp2
      go_ret
      refine ⟨?_, rfl⟩
      have := H.out
      rw [List.drop_eq_nil_of_le (by have := HN.out; omega)] at this
      rw [← this]
      rfl
theorem cmpOr_lit (w : World) (a0 a1 a2 a3 a4 a5 : Int) : Calls Tryz.prog 224 #[.slice (some ⟨w.heap.size, 0, none⟩) 6 6] (w.alloc (.cells #[.int .i64 a0, .int .i64 a1, .int .i64 a2, .int .i64 a3, .int .i64 a4, .int .i64 a5] 3)) fun e w' =>
    e = .returned (.int .i64 (firstNZ [a0, a1, a2, a3, a4, a5])) ∧ w' = w.alloc (.cells #[.int .i64 a0, .int .i64 a1, .int .i64 a2, .int .i64 a3, .int .i64 a4, .int .i64 a5] 3) := by
  refine cmpOr_any (n := 6) rfl (by decide) fun k z hk => ?_
  rw [cell_of_row _ w.heap.size k _ 3 (0, 0) (heap_alloc_new w _)]
  match k, hk with
  | 0, hk => simp at hk; subst hk; rfl
  | 1, hk => simp at hk; subst hk; rfl
  | 2, hk => simp at hk; subst hk; rfl
  | 3, hk => simp at hk; subst hk; rfl
  | 4, hk => simp at hk; subst hk; rfl
  | 5, hk => simp at hk; subst hk; rfl
theorem cmpOr_litD (w : World) (a0 a1 a2 a3 a4 a5 : Int) : Calls Tryz.prog 224 #[.slice (some ⟨w.heap.size, 0, none⟩) 6 6] (w.alloc (.cells #[.int .i64 a0, .int .i64 a1, .int .i64 a2, .int .i64 a3, .int .i64 a4, .int .i64 a5] 3)).drew fun e w' =>
    e = .returned (.int .i64 (firstNZ [a0, a1, a2, a3, a4, a5])) ∧ w' = (w.alloc (.cells #[.int .i64 a0, .int .i64 a1, .int .i64 a2, .int .i64 a3, .int .i64 a4, .int .i64 a5] 3)).drew := by
  refine cmpOr_any (n := 6) rfl (by decide) fun k z hk => ?_
  show (w.alloc (.cells #[.int .i64 a0, .int .i64 a1, .int .i64 a2, .int .i64 a3, .int .i64 a4, .int .i64 a5] 3)).cell? _ = _
  rw [cell_of_row _ w.heap.size k _ 3 (0, 0) (heap_alloc_new w _)]
  match k, hk with
  | 0, hk => simp at hk; subst hk; rfl
  | 1, hk => simp at hk; subst hk; rfl
  | 2, hk => simp at hk; subst hk; rfl
  | 3, hk => simp at hk; subst hk; rfl
  | 4, hk => simp at hk; subst hk; rfl
  | 5, hk => simp at hk; subst hk; rfl
theorem cmpS_first (x y : Sp) : cmpS x y = firstNZ [Lib.compareInt x.t y.t, Lib.compareInt x.s y.s, Lib.compareInt x.i y.i, Lib.compareInt x.p y.p, Lib.compareInt x.e y.e, Lib.compareBytes x.nl y.nl] := by
  unfold cmpS lexC firstNZ firstNZ firstNZ firstNZ firstNZ firstNZ firstNZ
  dsimp only
  (repeat' split) <;> first | rfl | omega
set_option maxRecDepth 200000 in
set_option maxHeartbeats 4000000 in
theorem compare_any (x y : Sp) (W : World) : Calls Tryz.prog 215 #[spV x, spV y] W fun e w' => e = .returned (.int .i64 (cmpS x y)) ∧ ∃ q os, w' = grow (W.drewN q) os := by
  rw [cmpS_first]
  obtain ⟨X, hX⟩ : ∃ X, (W.alloc (.cells #[.int .i64 x.t, .int .i64 x.i, .int .i64 x.p, .int .i64 x.s, .int .i64 x.e, .string x.n] 30)).alloc (.cells #[.int .i64 y.t, .int .i64 y.i, .int .i64 y.p, .int .i64 y.s, .int .i64 y.e, .string y.n] 30) = X := ⟨_, rfl⟩
  have hx := (spAt_new W x).below ((Below.refl _ _).alloc (Nat.le_refl _) (.cells #[.int .i64 y.t, .int .i64 y.i, .int .i64 y.p, .int .i64 y.s, .int .i64 y.e, .string y.n] 30))
  have hy := spAt_new (W.alloc (.cells #[.int .i64 x.t, .int .i64 x.i, .int .i64 x.p, .int .i64 x.s, .int .i64 x.e, .string x.n] 30)) y
  rw [hX] at hx hy
  rw [show (W.alloc (.cells #[.int .i64 x.t, .int .i64 x.i, .int .i64 x.p, .int .i64 x.s, .int .i64 x.e, .string x.n] 30)).heap.size = W.heap.size + 1 by simp] at hy
  obtain ⟨h0, h1, h2, h3, h4, h5⟩ := hx.z
  obtain ⟨k0, k1, k2, k3, k4, k5⟩ := hy.z
  have HX := hide hX
  obtain ⟨t, i, p, s, e, n⟩ := x
  obtain ⟨t', i', p', s', e', n'⟩ := y
  unfold spV Sp.nl
  dsimp only at *
  clear hx hy
  have HAL : Hid (∀ o, (X.alloc o).cell? ⟨W.heap.size, 0, none⟩ = some (.int .i64 t) ∧ (X.alloc o).cell? ⟨W.heap.size, 1, none⟩ = some (.int .i64 i) ∧ (X.alloc o).cell? ⟨W.heap.size, 2, none⟩ = some (.int .i64 p) ∧ (X.alloc o).cell? ⟨W.heap.size, 3, none⟩ = some (.int .i64 s) ∧ (X.alloc o).cell? ⟨W.heap.size, 4, none⟩ = some (.int .i64 e) ∧ (X.alloc o).cell? ⟨W.heap.size, 5, none⟩ = some (.string n) ∧ (X.alloc o).cell? ⟨W.heap.size + 1, 0, none⟩ = some (.int .i64 t') ∧ (X.alloc o).cell? ⟨W.heap.size + 1, 1, none⟩ = some (.int .i64 i') ∧ (X.alloc o).cell? ⟨W.heap.size + 1, 2, none⟩ = some (.int .i64 p') ∧ (X.alloc o).cell? ⟨W.heap.size + 1, 3, none⟩ = some (.int .i64 s') ∧ (X.alloc o).cell? ⟨W.heap.size + 1, 4, none⟩ = some (.int .i64 e') ∧ (X.alloc o).cell? ⟨W.heap.size + 1, 5, none⟩ = some (.string n')) := hide fun o => ⟨Lib.cell?_alloc_some _ h0, Lib.cell?_alloc_some _ h1, Lib.cell?_alloc_some _ h2, Lib.cell?_alloc_some _ h3, Lib.cell?_alloc_some _ h4, Lib.cell?_alloc_some _ h5, Lib.cell?_alloc_some _ k0, Lib.cell?_alloc_some _ k1, Lib.cell?_alloc_some _ k2, Lib.cell?_alloc_some _ k3, Lib.cell?_alloc_some _ k4, Lib.cell?_alloc_some _ k5⟩
  go_enter Tryz.func215, Tryz.ntmps215
  go_wp2_with fail
  clear hX
  go_region_held3 (fun V => V.cell? ⟨W.heap.size, 0, none⟩ = some (.int .i64 t) ∧ V.cell? ⟨W.heap.size, 1, none⟩ = some (.int .i64 i) ∧ V.cell? ⟨W.heap.size, 2, none⟩ = some (.int .i64 p) ∧ V.cell? ⟨W.heap.size, 3, none⟩ = some (.int .i64 s) ∧ V.cell? ⟨W.heap.size, 4, none⟩ = some (.int .i64 e) ∧ V.cell? ⟨W.heap.size, 5, none⟩ = some (.string n) ∧ V.cell? ⟨W.heap.size + 1, 0, none⟩ = some (.int .i64 t') ∧ V.cell? ⟨W.heap.size + 1, 1, none⟩ = some (.int .i64 i') ∧ V.cell? ⟨W.heap.size + 1, 2, none⟩ = some (.int .i64 p') ∧ V.cell? ⟨W.heap.size + 1, 3, none⟩ = some (.int .i64 s') ∧ V.cell? ⟨W.heap.size + 1, 4, none⟩ = some (.int .i64 e') ∧ V.cell? ⟨W.heap.size + 1, 5, none⟩ = some (.string n')) (first | exact ⟨h0, h1, h2, h3, h4, h5, k0, k1, k2, k3, k4, k5⟩ | exact HAL.out _) (first
    | (go_at_call 225; refine (Tryz.cmp_Compare_int _ _ _).mono ?_; rintro e v ⟨rfl, rfl⟩)
    | (go_at_call 226; refine (Tryz.strings_Compare _ _ _).mono ?_; rintro e v ⟨rfl, rfl⟩)
    | (go_at_call 224; refine (cmpOr_litD _ _ _ _ _ _ _).mono ?_; rintro e v ⟨rfl, rfl⟩)
    | (go_at_call 224; refine (cmpOr_lit _ _ _ _ _ _ _).mono ?_; rintro e v ⟨rfl, rfl⟩))
  all_goals
    go_wp2
    go_ret
    first
      | exact ⟨rfl, 1, _, by rw [← HX.out, alloc_eq_grow, alloc_eq_grow, alloc_eq_grow, grow_grow, grow_grow]; rfl⟩
      | exact ⟨rfl, 0, _, by rw [← HX.out, alloc_eq_grow, alloc_eq_grow, alloc_eq_grow, grow_grow, grow_grow]; rfl⟩
end Go.Proofs.YtionbmlicmibgaaGreatDoor
namespace Go.Proofs.YtionbmlicmibgaaGreatDoor
set_option linter.unusedVariables false
set_option linter.unusedSimpArgs false
open Go.RowKit Go.Sort Go.Lib
theorem holdsSp {B : Nat} {w : World} {g cap : Nat} {l : List Sp} (h : OwnS B w (.slice (some ⟨g, 0, none⟩) l.length cap) l) : HoldsK spC 6 w g 0 l.toArray := by
  obtain ⟨hl, ⟨e, _⟩ | ⟨g', cap', cur, e, hB, hh, hc, hm, hs, ht⟩⟩ := h
  · cases e
  · injection e with e1 e2 e3
    injection e1 with e1
    injection e1 with e1
    subst e1 e3
    intro j hj
    rw [size_flatK] at hj
    have hj' : j < l.length * 6 := by simpa using hj
    refine ⟨?_, by rw [Nat.zero_add]; exact frozen_of_row w g j cur 30 hh⟩
    rw [get_flatK _ _ _ _ hj, Nat.zero_add, cell_of_row w g j cur 30 (0, 0) hh]
    have hx : l[j / 6]? = some (l[j / 6]'(by omega)) := List.getElem?_eq_getElem _
    have h1 := flat_at l (j / 6) (j % 6) hx (Nat.mod_lt _ (by omega))
    rw [show j / 6 * 6 + j % 6 = j by omega, ← ht, List.getElem?_take_of_lt (by omega), Array.getElem?_toList] at h1
    rw [h1]
    have h2 : l.toArray[j / 6]! = l[j / 6]'(by omega) := by
      rw [getElem!_pos l.toArray (j / 6) (by simp; omega)]
      simp
    rw [h2]
    rw [List.getElem?_eq_getElem (by rw [spC_length]; omega)]
    congr 1
    rw [getElem!_pos (spC (l[j / 6]'(by omega))) (j % 6) (by rw [spC_length]; omega)]
    rfl
theorem row_put {w : World} {g : Nat} {cur : Array Value} {e : TypeId} (h : w.heap[g]? = some (Obj.cells cur e (0, 0))) (d : Array Sp) :
    (putRowK spC 6 w g 0 d).heap[g]? = some (Obj.cells (putCells id 0 (flatK spC 6 d) cur) e (0, 0)) := by
  unfold putRowK putRow mapBlock
  simp [Array.getElem?_modify, h, onCells]
theorem row_put_other {w : World} {g k : Nat} (d : Array Sp) (hk : k ≠ g) : (putRowK spC 6 w g 0 d).heap[k]? = w.heap[k]? := by
  unfold putRowK putRow mapBlock
  simp only [Array.getElem?_modify]
  rw [if_neg (Ne.symm hk)]
theorem sorted_own {B : Nat} {w : World} {g cap n : Nat} {l m : List Sp} {os : Array Obj} (h : OwnS B w (.slice (some ⟨g, 0, none⟩) l.length cap) l) (hml : m.length = l.length) :
    OwnS B (grow (putRowK spC 6 (Sort.ahead w n) g 0 m.toArray) os) (.slice (some ⟨g, 0, none⟩) l.length cap) m ∧ w.grownBy (grow (putRowK spC 6 (Sort.ahead w n) g 0 m.toArray) os) (some g) := by
  have hold := holdsSp h
  obtain ⟨hl, ⟨e, _⟩ | ⟨g', cap', cur, e, hB, hh, hc, hm, hs, ht⟩⟩ := h
  · cases e
  · injection e with e1 e2 e3
    injection e1 with e1
    injection e1 with e1
    subst e1 e3
    have hg : g < w.heap.size := (Array.getElem?_eq_some_iff.1 hh).1
    have hh' : (Sort.ahead w n).heap[g]? = some (Obj.cells cur 30 (0, 0)) := hh
    have hp := row_put hh' m.toArray
    have hgs : g < (putRowK spC 6 (Sort.ahead w n) g 0 m.toArray).heap.size := (Array.getElem?_eq_some_iff.1 hp).1
    have hgr : (grow (putRowK spC 6 (Sort.ahead w n) g 0 m.toArray) os).heap[g]? = some (Obj.cells (putCells id 0 (flatK spC 6 m.toArray) cur) 30 (0, 0)) := by
      show ((putRowK spC 6 (Sort.ahead w n) g 0 m.toArray).heap ++ os)[g]? = _
      rw [Array.getElem?_append_left hgs, hp]
    have hH := holdsK_grow spC 6 _ os g 0 _ hgs (holdsK_putRowK spC 6 (Sort.ahead w n) g 0 l.toArray m.toArray (holdsK_ahead spC 6 w n g 0 _ hold) (by simp [hml]))
    refine ⟨⟨by rw [flat_len], .inr ⟨g, cap, _, by rw [hml], hB, hgr, by omega, hm, by simp [putCells, hs], ?_⟩⟩, ⟨rfl, rfl, rfl, ?_, fun k hk hne => ?_⟩⟩
    · apply List.ext_getElem?
      intro j
      by_cases hj : j < l.length * 6
      · rw [List.getElem?_take_of_lt (by omega), Array.getElem?_toList]
        have hcell := (hH.cell (i := j / 6) (c := j % 6) (by simp; omega) (Nat.mod_lt _ (by omega))).1
        rw [cell_of_row _ g _ _ 30 (0, 0) hgr, Nat.zero_add, show j / 6 * 6 + j % 6 = j by omega] at hcell
        rw [hcell]
        have hx : m[j / 6]? = some (m[j / 6]'(by omega)) := List.getElem?_eq_getElem _
        have h1 := flat_at m (j / 6) (j % 6) hx (Nat.mod_lt _ (by omega))
        rw [show j / 6 * 6 + j % 6 = j by omega] at h1
        rw [h1]
        have h2 : m.toArray[j / 6]! = m[j / 6]'(by omega) := by
          rw [getElem!_pos m.toArray (j / 6) (by simp; omega)]
          simp
        rw [h2, List.getElem?_eq_getElem (by rw [spC_length]; omega), getElem!_pos (spC (m[j / 6]'(by omega))) (j % 6) (by rw [spC_length]; omega)]
      · rw [List.getElem?_eq_none (by rw [List.length_take]; omega), List.getElem?_eq_none (by rw [flat_len]; omega)]
    · show w.heap.size ≤ ((putRowK spC 6 (Sort.ahead w n) g 0 m.toArray).heap ++ os).size
      have : (putRowK spC 6 (Sort.ahead w n) g 0 m.toArray).heap.size = w.heap.size := size_putRow _ _ _ _ _
      rw [Array.size_append]
      omega
    · have hkg : k ≠ g := fun e => hne (by rw [e])
      have hks : k < (putRowK spC 6 (Sort.ahead w n) g 0 m.toArray).heap.size := by
        have : (putRowK spC 6 (Sort.ahead w n) g 0 m.toArray).heap.size = w.heap.size := size_putRow _ _ _ _ _
        omega
      show ((putRowK spC 6 (Sort.ahead w n) g 0 m.toArray).heap ++ os)[k]? = _
      rw [Array.getElem?_append_left hks, row_put_other _ hkg]
      rfl
theorem cmp_lays (blk off size : Nat) (w : World) : CmpLays Tryz.prog 215 #[] spC 6 cmpS blk off size w := fun _ _ _ _ x y => compare_any x y _
set_option maxRecDepth 200000 in
set_option maxHeartbeats 1100000 in
theorem sortFunc_any {B : Nat} {w : World} {v : Value} {l : List Sp} (h : OwnS B w v l) (hl : l.length ≤ 1100000) :
    Calls Tryz.prog 214 #[v, .func (.func 215) #[] #[]] w fun e w' => e = .returned (.tuple #[]) ∧ OwnS B w' v (sortS l) ∧ w.grownBy w' v.ownBlock := by
  have h' := h
  obtain ⟨hll, ⟨rfl, h0⟩ | ⟨g, cap, cur, rfl, hB, hh, hc, hm, hs, ht⟩⟩ := h
  · obtain rfl : l = [] := List.eq_nil_of_length_eq_zero h0
    exact (AnyF.slices_SortFunc_none { Tryz.sortSp with } none 0 (.func (.func 215) #[] #[]) w).mono fun e w' ⟨he, hw⟩ => ⟨he, by rw [hw, show sortS [] = [] by simp [sortS]]; exact h', by rw [hw]; exact World.grownBy.refl _ _⟩
  · have eg : ∀ args w, (callFunc 215 args).run Tryz.prog w = .ok (.enter 215 args) w := enters_of Tryz.func215 (by kernel_rfl) rfl
    have := AnyQ.slices_SortFunc_total Tryz.sortSp 6 Tryz.isAgg30 Tryz.sizeOf30 spC spC_length spC_one cmpS ltS_swo 215 #[] g 0 cap l.toArray w eg (cmp_lays g 0 _ w) (holdsSp h') (Array.getElem?_eq_some_iff.1 hh).1 (by simp; omega) ltS_tot
    refine Calls.mono (show Calls Tryz.prog 214 #[.slice (some ⟨g, 0, none⟩) l.length cap, .func (.func 215) #[] #[]] w _ from this) ?_
    rintro e w' ⟨he, n, os, rfl⟩
    have hs2 : (l.toArray.toList.mergeSort fun x y => !(ltOf cmpS) y x) = sortS l := rfl
    rw [hs2]
    obtain ⟨h1, h2⟩ := sorted_own (n := n) (os := os) h' (sortS_length l)
    refine ⟨he, ?_, h2⟩
    exact h1
end Go.Proofs.YtionbmlicmibgaaGreatDoor
namespace Go.Proofs.YtionbmlicmibgaaGreatDoor
set_option linter.unusedVariables false
set_option linter.unusedSimpArgs false
open Go.RowKit Go.Sort
set_option maxRecDepth 200000 in
set_option maxHeartbeats 1100000 in
theorem sort_any {w : World} {v : Value} {l : List Sp} (hv : Sps w v l) (hl : l.length ≤ 1100000) : Calls Tryz.prog 200 #[v] w fun e w' => ∃ v', e = .returned v' ∧ OwnS w.heap.size w' v' (sortS l) ∧ Below w.heap.size w w' := by
  obtain ⟨p, n, c, rfl⟩ := hv.sl
  have HV := hide hv
  clear hv
  go_enter Tryz.func200, Tryz.ntmps200
  go_wp2_with fail
  refine (cloneSp_any HV.out hl).mono ?_
  rintro e1 w1 ⟨v1, rfl, ho1, hb1⟩
  obtain ⟨p1, n1, c1, rfl⟩ := ho1.sps.sl
  have HO := hide ho1
  have HB := hide hb1
  clear ho1 hb1
  go_wp2_with fail
  refine (sortFunc_any HO.out hl).mono ?_
  rintro e2 w2 ⟨rfl, ho2, hg2⟩
  have HO2 := hide ho2
  have HG2 := hide hg2
  clear ho2 hg2
  go_wp2
  go_ret
  exact ⟨_, rfl, HO2.out, HB.out.grown HG2.out HB.out.size (fun k hk => (HO.out.lt k hk).1)⟩
end Go.Proofs.YtionbmlicmibgaaGreatDoor
namespace Go.Proofs.YtionbmlicmibgaaGreatDoor
set_option linter.unusedVariables false
set_option linter.unusedSimpArgs false
open Go.RowKit
theorem wpList_pushH {w : World} {ops : Array Oper} {rest : List Oper} {o : Oper} {a : Act} {Q : Exit → Act → World → Prop} (hgd : o.guard = none) (s t : Operand)
    (ho : o.op = .call { callee := .builtin .append, args := #[s, t], argTypes := #[22, 22] }) (hty : o.type = 22) {B : Nat} {v : Value} {l : List Sp} (x : Sp) {H : Nat}
    (hs : a.eval s = v) (ht : a.eval t = .slice (some ⟨H, 0, none⟩) 1 1) (hH : H = w.heap.size) (h : OwnS B w v l) (hB : B ≤ w.heap.size) (hn : l.length ≤ 1100000)
    (hK : ∀ v' w', OwnS B w' v' (l ++ [x]) → Below B w w' → w.grownBy w' v.ownBlock → wpList Tryz.prog ops Q rest (a.put o.dst v') w') : wpList Tryz.prog ops Q (o :: rest) a (w.alloc (.cells #[.int .i64 x.t, .int .i64 x.i, .int .i64 x.p, .int .i64 x.s, .int .i64 x.e, .string x.n] 30)) := by
  subst hH
  exact wpList_push hgd s t ho hty x hs ht h hB hn hK
theorem same_int (a b : Int) : (Lit.int .i64 a).sameKey (.int .i64 b) = decide (a = b) := by
  by_cases h : a = b
  · subst h
    rw [WideAt.sameKey_self (isKeyI _)]
    simp
  · rw [Maps.sameKey_ne (fun e => h (by injection e))]
    simp [h]
def doneS (L : List Sp) (left : Lit → Bool) : List Sp := L.filter fun x => !left (.int .i64 x.i)
theorem doneS_step : ∀ {L : List Sp}, (L.Pairwise fun x y => x.i ≠ y.i) → ∀ {left : Lit → Bool} {x : Sp}, x ∈ L → left (.int .i64 x.i) = true → (x :: doneS L left).Perm (doneS L fun z => left z && !z.sameKey (.int .i64 x.i))
  | [], _, left, x, hx, _ => by simp at hx
  | y :: r, hid, left, x, hx, hl => by
    obtain ⟨h1, h2⟩ := List.pairwise_cons.1 hid
    unfold doneS
    by_cases hxy : y.i = x.i
    · have hxy' : x = y := by
        rcases List.mem_cons.1 hx with e | hx
        · exact e
        · exact absurd hxy (h1 x hx)
      subst hxy'
      rw [List.filter_cons_of_neg (by simp [hl]), List.filter_cons_of_pos (by simp [same_int])]
      have e : r.filter (fun p => !(left (.int .i64 p.i) && !(Lit.int .i64 p.i).sameKey (.int .i64 x.i))) = r.filter (fun p => !left (.int .i64 p.i)) := by
        apply List.filter_congr
        intro q hq
        have := h1 q hq
        have hne : ¬ q.i = x.i := fun e => this e.symm
        simp [same_int, hne]
      rw [e]
    · have hx' : x ∈ r := by
        rcases List.mem_cons.1 hx with e | hx
        · exact absurd (by rw [e]) hxy
        · exact hx
      have ih := doneS_step h2 hx' hl
      unfold doneS at ih
      by_cases hy : left (.int .i64 y.i) = true
      · rw [List.filter_cons_of_neg (by simp [hy]), List.filter_cons_of_neg (by simp [same_int, hy, hxy])]
        exact ih
      · rw [List.filter_cons_of_pos (by simp [hy]), List.filter_cons_of_pos (by simp [hy])]
        exact (List.Perm.swap y x _).trans (ih.cons y)
theorem doneS_all {L : List Sp} {left : Lit → Bool} (h : ∀ k, left k = false) : doneS L left = L := List.filter_eq_self.2 fun p _ => by rw [h]; rfl
theorem doneS_none {L : List Sp} {left : Lit → Bool} (h : ∀ x ∈ L, left (.int .i64 x.i) = true) : doneS L left = [] := List.filter_eq_nil_iff.2 fun p hp => by rw [h p hp]; simp
theorem doneS_le (L : List Sp) (left : Lit → Bool) : (doneS L left).length ≤ L.length := List.length_filter_le _ _
theorem keyI_inv {key : Value} {kl : Lit} (h : keyOf Tryz.prog 3 key = some kl) : ∃ x : Int, key = .int .i64 x := by
  obtain ⟨x, rfl, _⟩ := Maps.keyOf_int_inv Tryz.underlying3 h
  exact ⟨x, rfl⟩
theorem heldA_agg {v : Value} {y : DataW Value × List MemPlace} (h : heldA v = some y) : (∃ c, v = .agg c) ∧ y.1 = .held v := by
  cases v <;> simp [heldA] at h
  subst h
  exact ⟨⟨_, rfl⟩, rfl⟩
theorem BagIs.came {w : World} {b : Nat} {L : List Sp} {D : DataW Value} (h : BagIs w b L D) {k : Int} {c : Array Value} {kl : Lit} {y : DataW Value × List MemPlace}
    (hk : keyOf Tryz.prog 3 (.int .i64 k) = some kl) (hv : heldA (.agg c) = some y) (hat : ∀ zd, D.atKey kl zd = y.1) : ∃ x, x ∈ L ∧ k = x.i ∧ kl = .int .i64 x.i ∧ c = (spC x).toArray := by
  obtain ⟨k', e, hkl, hwf⟩ := Maps.keyOf_int_inv Tryz.underlying3 hk
  injection e with _ e
  subst e
  subst hkl
  have hh := Maps.has_true_of_atKey hat
  rw [h.keys] at hh
  obtain ⟨x, hx⟩ := Option.isSome_iff_exists.1 hh
  have e1 := h.vals _ x hx .nil
  rw [hat, (heldA_agg hv).2] at e1
  injection e1 with e1
  injection e1 with e1
  obtain ⟨h1, h2⟩ := fnd_mem hx
  exact ⟨x, h1, h2.symm, by rw [h2], e1⟩
def endP : List Sp → Int
  | [] => 0
  | x :: r => max x.e (endP r)
theorem endP_perm {L M : List Sp} (h : L.Perm M) : endP L = endP M := by
  induction h with
  | nil => rfl
  | cons x _ ih => unfold endP; rw [ih]
  | swap x y l => unfold endP; unfold endP; omega
  | trans _ _ ih1 ih2 => exact ih1.trans ih2
theorem endP_le {L : List Sp} (h : ∀ x ∈ L, x.e ≤ 1099511627776) : 0 ≤ endP L ∧ endP L ≤ 1099511627776 := by
  induction L with
  | nil => exact ⟨Int.le_refl _, by decide⟩
  | cons x r ih =>
    have := ih fun y hy => h y (List.mem_cons_of_mem _ hy)
    have := h x (List.mem_cons_self ..)
    unfold endP
    omega
theorem ranges_chgB {H : Type} {P : Program} {k : TypeId} {R : Value → Option (DataW H × List MemPlace)} {w w' : World} {b r n : Nat} {D : DataW H} {left : Lit → Bool} {cnt : Nat} {row : Option Nat} (h : w.ranges P k R b r n D left cnt) (hc : w.grownBy w' row) (hb : row ≠ some b) (hr : row ≠ some r) : w'.ranges P k R b r n D left cnt := by
  have h1 := h.owns.lt
  have h2 := h.lt
  obtain ⟨es, clock, since, seen, c0, hb', F, hs, hD, hr', rest⟩ := h
  exact ⟨es, clock, since, seen, c0, (hc.block b h1 (fun e => hb e.symm)).trans hb', F, hs, hD, (hc.block r h2 (fun e => hr e.symm)).trans hr', rest⟩
set_option maxRecDepth 200000 in
set_option maxHeartbeats 1100000 in
theorem lastEnd_any {w : World} {b : Nat} {L : List Sp} {D : DataW Value} (h : BagIs w b L D) (he : ∀ x ∈ L, 0 ≤ x.e ∧ x.e ≤ 1099511627776) :
    Calls Tryz.prog 199 #[.map (some b)] w fun e w' => e = .returned (.int .i64 (endP L)) ∧ Below w.heap.size w w' := by
  have H := hide h
  have hown := h.map
  have HE := hide he
  clear h he
  go_enter Tryz.func199, Tryz.ntmps199
  go_wp2_with (first | (at_range; refine wpList_range_own _ rfl _ 230 rfl 3 30 intK Tryz.underlying230 _ b L.length D rfl hown ?_; intro w0 hrg0 hg0 hs0) | go_in)
  go_frame
  have hB0 : Below w.heap.size w w0 := ⟨hg0.os, hg0.tape, hg0.output, hg0.size, fun k hk => hg0.block k hk (by simp)⟩
  have hd0 : doneS L (Maps.has D) = [] := doneS_none fun p hp => by
    rw [H.out.keys, fnd_of H.out.ids hp]
    rfl
  have HRG := hide hrg0
  have HB0 := hide hB0
  have HD0 := hide hd0
  clear hrg0 hg0 hB0 hd0 hs0 hown
  go_loopw [3] (fun n wr => ∃ left cnt, wr.ranges Tryz.prog 3 heldA b w.heap.size L.length D left cnt ∧ n = .int .i64 (endP (doneS L left)) ∧ Below w.heap.size w wr) (fun _ wr => wr.rangeLeft b w.heap.size)
  case atStart => exact ⟨_, _, HRG.out, by rw [HD0.out]; rfl, HB0.out⟩
  case round =>
    obtain ⟨left, cnt, hrg, rfl, hB⟩ := hrel
    obtain ⟨hle0, hle⟩ := endP_le (L := doneS L left) fun x hx => (HE.out x (List.mem_filter.1 hx).1).2
    obtain ⟨m, hm⟩ : ∃ m, endP (doneS L left) = m := ⟨_, rfl⟩
    rw [hm] at hle hle0
    rw [hm]
    have HM := hide hm
    have HB := hide hB
    have HRG2 := hide hrg
    clear hB hm
    go_wp2_with (first | (at_next; refine wpList_next_ranges _ rfl _ rfl 3 intK heldA (Value.int .i64) Value.agg (fun key kl h => keyI_inv h) (fun v y h => (heldA_agg h).1) b w.heap.size L.length D left cnt rfl hrg ?_ ?_) | go_in)
    · intro hc0 hl0
      have hda := doneS_all (L := L) hl0
      rw [hda] at HM
      clear hrg hda
      go_wp2
      go_ret
      exact ⟨by rw [HM.out]; rfl, HB.out⟩
    · intro k c kl y1 ps w1 cnt1 hkey hlk hv hat hrg1 hlt hg1 hs1 hen
      obtain ⟨x, hx, rfl, rfl, rfl⟩ := H.out.came (y := (y1, ps)) hkey hv hat
      have hst := endP_perm (doneS_step H.out.ids hx hlk)
      have hB1 := HB.out.grown hg1 HB.out.size (fun k hk => by injection hk with hk; omega)
      obtain ⟨hx0, hx1⟩ := HE.out x hx
      have HS : Hid (endP (doneS L fun z => left z && !z.sameKey (.int .i64 x.i)) = max x.e m) := by
        rw [← hst]
        unfold endP
        rw [HM.out]
        exact rfl
      have HR1 := hide hrg1
      have HB1 := hide hB1
      have HLT := hide hlt
      obtain ⟨t, i, p, s, e, nm⟩ := x
      unfold spC at *
      dsimp only at *
      clear hst hrg1 hB1 hrg hkey hv hat hlk hg1 hs1 hlt hx
      by_cases hmx : m < e
      all_goals
        go_wp2
        go_roundw
        case rel => exact ⟨_, _, ranges_chgB HR1.out (World.grownBy_alloc w1 _ none) (by simp) (by simp), by rw [HS.out]; first | rfl | (congr 1; omega), HB1.out.alloc HB1.out.size _⟩
        case measure => rw [(ranges_chgB HR1.out (World.grownBy_alloc w1 _ none) (by simp) (by simp)).left_eq, HRG2.out.left_eq]; exact HLT.out
set_option maxRecDepth 200000 in
set_option maxHeartbeats 1100000 in
theorem sorted_any {w : World} {b : Nat} {L : List Sp} {D : DataW Value} (h : BagIs w b L D) (hL : L.length ≤ 64) :
    Calls Tryz.prog 189 #[.map (some b)] w fun e w' => ∃ v', e = .returned v' ∧ OwnS w.heap.size w' v' (sortS L) ∧ Below w.heap.size w w' := by
  have H := hide h
  have hown := h.map
  have hbw := h.map.lt
  have HL := hide hL
  clear h hL
  go_enter Tryz.func189, Tryz.ntmps189
  go_wp2_with (first | (at_range; refine wpList_range_own _ rfl _ 230 rfl 3 30 intK Tryz.underlying230 _ b L.length D rfl hown ?_; intro w0 hrg0 hg0 hs0) | go_in)
  go_frame
  have hB0 : Below w.heap.size w w0 := ⟨hg0.os, hg0.tape, hg0.output, hg0.size, fun k hk => hg0.block k hk (by simp)⟩
  have hd0 : doneS L (Maps.has D) = [] := doneS_none fun p hp => by
    rw [H.out.keys, fnd_of H.out.ids hp]
    rfl
  have HRG := hide hrg0
  have HB0 := hide hB0
  have HD0 := hide hd0
  have HS0 := hide hs0
  have HBW := hide hbw
  clear hrg0 hg0 hB0 hd0 hs0 hown hbw
  go_loopw [3] (fun v wr => ∃ left cnt M p n c, v = .slice p n c ∧ wr.ranges Tryz.prog 3 heldA b w.heap.size L.length D left cnt ∧ Hid (OwnS (w.heap.size + 1) wr (.slice p n c) M ∧ M.Perm (doneS L left) ∧ Below w.heap.size w wr ∧ w.heap.size + 1 ≤ wr.heap.size)) (fun _ wr => wr.rangeLeft b w.heap.size)
  case atStart => exact ⟨_, _, [], none, 0, 0, rfl, HRG.out, hide ⟨OwnS.nil _ _, by rw [HD0.out], HB0.out, by have := HS0.out; omega⟩⟩
  case round =>
    obtain ⟨left, cnt, M, p, n, c, rfl, hrg, HR⟩ := hrel
    have HRG2 := hide hrg
    go_wp2_with (first | (at_next; refine wpList_next_ranges _ rfl _ rfl 3 intK heldA (Value.int .i64) Value.agg (fun key kl h => keyI_inv h) (fun v y h => (heldA_agg h).1) b w.heap.size L.length D left cnt rfl hrg ?_ ?_) | go_in)
    · intro hc0 hl0
      have hda := doneS_all (L := L) hl0
      have hM : M.Perm L := by have := HR.out.2.1; rwa [hda] at this
      have HM := hide hM
      clear hrg hda hM
      go_wp2_with fail
      refine (sort_any HR.out.1.sps (by have := HM.out.length_eq; have := HL.out; omega)).mono ?_
      rintro e1 w1 ⟨v1, rfl, ho1, hb1⟩
      obtain ⟨p1, n1, c1, rfl⟩ := ho1.sps.sl
      have HO1 := hide ho1
      have HB1 := hide hb1
      clear ho1 hb1
      go_wp2
      go_ret
      refine ⟨_, rfl, ?_, HR.out.2.2.1.trans (HB1.out.mono (by have := HR.out.2.2.2; omega))⟩
      rw [← sortS_of_perm HM.out]
      exact HO1.out.mono (by have := HR.out.2.2.2; omega)
    · intro k c2 kl y1 ps w1 cnt1 hkey hlk hv hat hrg1 hlt hg1 hs1 hen
      obtain ⟨x, hx, rfl, rfl, rfl⟩ := H.out.came (y := (y1, ps)) hkey hv hat
      have hst := doneS_step H.out.ids hx hlk
      have hB1 := HR.out.2.2.1.grown hg1 HR.out.2.2.1.size (fun k hk => by injection hk with hk; omega)
      have ho1 : OwnS (w.heap.size + 1) w1 (.slice p n c) M := HR.out.1.grown hg1 (by
        rcases hvo : (Value.slice p n c).ownBlock with _ | i
        · exact .inl rfl
        · exact .inr fun e => by
            injection e with e
            have := (HR.out.1.lt i hvo).1
            omega)
      have hMl : M.length ≤ 64 := by
        have := HR.out.2.1.length_eq
        have := doneS_le L left
        have := HL.out
        omega
      have hperm := ((List.perm_append_comm (l₁ := M) (l₂ := [x])).trans (HR.out.2.1.cons x)).trans hst
      have HP := hide hperm
      have HSZ := hide hs1
      have HR1 := hide hrg1
      have HB1 := hide hB1
      have HLT := hide hlt
      have HML := hide hMl
      have hROW := World.ownsRow.alloc ho1 (.cells #[.int .i64 x.t, .int .i64 x.i, .int .i64 x.p, .int .i64 x.s, .int .i64 x.e, .string x.n] 30)
      have HROW : Hid (OwnS (w.heap.size + 1) (w1.alloc (.cells #[.int .i64 x.t, .int .i64 x.i, .int .i64 x.p, .int .i64 x.s, .int .i64 x.e, .string x.n] 30)) (.slice p n c) M) := hide hROW
      have HRX := hide (ranges_chgB hrg1 (World.grownBy_alloc w1 (.cells #[.int .i64 x.t, .int .i64 x.i, .int .i64 x.p, .int .i64 x.s, .int .i64 x.e, .string x.n] 30) none) (by simp) (by simp))
      have HBX := hide (hB1.alloc hB1.size (.cells #[.int .i64 x.t, .int .i64 x.i, .int .i64 x.p, .int .i64 x.s, .int .i64 x.e, .string x.n] 30))
      obtain ⟨t, i, q, s, e, nm⟩ := x
      unfold spC at *
      dsimp only at *
      clear hst hrg1 hB1 hrg hkey hv hat hlk hg1 hs1 hlt hx ho1 hMl hperm hROW
      go_wp2_with (at_builtin; go_must (refine wpList_pushH (v := .slice p n c) rfl _ _ rfl rfl ⟨t, i, q, s, e, nm⟩ rfl rfl (by simp) HROW.out (by have := HSZ.out; have := HR.out.2.2.2; simp; omega) (by have := HML.out; omega) ?_); intro v5 w5 ho5 hb5 hg5)
      obtain ⟨p5, n5, c5, rfl⟩ := ho5.sps.sl
      have HR5 := hide (ranges_chgB HRX.out hg5 (fun e => by have := (HROW.out.lt _ e).1; have := HBW.out; omega) (fun e => by have := (HROW.out.lt _ e).1; omega))
      have HO5 := hide ho5
      have HB5 := hide (HBX.out.grown hg5 HBX.out.size (fun k hk => by have := (HROW.out.lt k hk).1; omega))
      have HZ5 := hide hg5.size
      clear ho5 hb5 hg5
      go_wp2
      go_roundw
      case rel => exact ⟨_, _, M ++ [⟨t, i, q, s, e, nm⟩], p5, n5, c5, rfl, HR5.out, hide ⟨HO5.out, HP.out, HB5.out, by have := HZ5.out; have := HR.out.2.2.2; have := HSZ.out; simp at *; omega⟩⟩
      case measure => rw [HR5.out.left_eq, HRG2.out.left_eq]; exact HLT.out
end Go.Proofs.YtionbmlicmibgaaGreatDoor
namespace Go.Proofs.YtionbmlicmibgaaGreatDoor
set_option linter.unusedVariables false
set_option linter.unusedSimpArgs false
open Go.RowKit
def Uof (L P : List Sp) (j : Int) : List Sp := if j = 0 ∨ fnd L j = none then [] else kids P j
def rootsB (P : List Sp) : List Br := (roots P).map fun s => ⟨0, false, s⟩
def orphsB (L P : List Sp) : List Br := (P.filter fun x => !(x.p == 0) && !(fnd L x.p).isSome).map fun s => ⟨0, true, s⟩
theorem kids_snoc (P : List Sp) (y : Sp) (j : Int) : kids (P ++ [y]) j = kids P j ++ if y.p = j then [y] else [] := by
  unfold kids
  rw [List.filter_append]
  congr 1
  by_cases h : y.p = j
  · rw [if_pos h, List.filter_cons_of_pos (by simpa using h)]; rfl
  · rw [if_neg h, List.filter_cons_of_neg (by simpa using h)]; rfl
theorem rootsB_snoc (P : List Sp) (y : Sp) : rootsB (P ++ [y]) = rootsB P ++ if y.p = 0 then [⟨0, false, y⟩] else [] := by
  unfold rootsB
  rw [show roots (P ++ [y]) = kids (P ++ [y]) 0 from rfl, kids_snoc, List.map_append, show kids P 0 = roots P from rfl]
  congr 1
  split <;> rfl
theorem orphsB_snoc (L P : List Sp) (y : Sp) : orphsB L (P ++ [y]) = orphsB L P ++ if y.p ≠ 0 ∧ fnd L y.p = none then [⟨0, true, y⟩] else [] := by
  unfold orphsB
  rw [List.filter_append, List.map_append]
  congr 1
  by_cases h : y.p ≠ 0 ∧ fnd L y.p = none
  · rw [if_pos h, List.filter_cons_of_pos (by simp [h.1, h.2])]; rfl
  · rw [if_neg h, List.filter_cons_of_neg (by
      intro hh
      rw [Bool.and_eq_true, Bool.not_eq_true', Bool.not_eq_true', beq_eq_false_iff_ne, Option.isSome_eq_false_iff, Option.isNone_iff_eq_none] at hh
      exact h hh)]; rfl
theorem Uof_root {L P : List Sp} {y : Sp} (h : y.p = 0 ∨ fnd L y.p = none) : Uof L (P ++ [y]) = Uof L P := by
  funext j
  unfold Uof
  by_cases hj : j = 0 ∨ fnd L j = none
  · rw [if_pos hj, if_pos hj]
  · rw [if_neg hj, if_neg hj, kids_snoc, if_neg (by rintro rfl; exact hj h), List.append_nil]
theorem Uof_kid {L P : List Sp} {y : Sp} (h : ¬ (y.p = 0 ∨ fnd L y.p = none)) : Uof L (P ++ [y]) = fun j => if j = y.p then Uof L P y.p ++ [y] else Uof L P j := by
  funext j
  by_cases e : j = y.p
  · subst e
    rw [if_pos rfl]
    unfold Uof
    rw [if_neg h, if_neg h, kids_snoc, if_pos rfl]
  · rw [if_neg e]
    unfold Uof
    rw [kids_snoc, show (if y.p = j then [y] else []) = [] from if_neg fun h => e h.symm, List.append_nil]
theorem BagIs.chg {w w' : World} {b : Nat} {L : List Sp} {D : DataW Value} {T : Nat → Prop} (h : BagIs w b L D) (hc : Chg w w' T) (hb : ¬ T b) : BagIs w' b L D := by
  have hlt := h.map.lt
  obtain ⟨es, clock, h1, rest⟩ := h.map
  exact ⟨⟨es, clock, (hc.block b hlt hb).trans h1, rest⟩, h.size, h.keys, h.vals, h.ids⟩
structure TopInv (w1 w : World) (bU : Nat) (vR vO : Value) (R O : List Br) (U : Int → List Sp) (V : Int → Value) (D : DataW Value) : Prop where
  chg : Chg w1 w fun k => k = bU
  r : OwnB w1.heap.size w vR R
  o : OwnB w1.heap.size w vO O
  u : UndIs w w1.heap.size bU U V D
  bu : bU < w1.heap.size
  ro : ∀ i, vR.ownBlock = some i → vO.ownBlock ≠ some i
  rU : ∀ i, vR.ownBlock = some i → UndOff bU V D i
  oU : ∀ i, vO.ownBlock = some i → UndOff bU V D i
theorem chg_grown {w1 w w' : World} {T : Nat → Prop} {row : Option Nat} (h : Chg w1 w T) (hg : w.grownBy w' row) (hr : ∀ i, row = some i → T i ∨ w1.heap.size ≤ i) : Chg w1 w' T :=
  h.trans (Chg.of_grown hg (fun k => row = some k) fun k e => .inl e) fun k e => hr k e
theorem TopInv.alloc {w1 w : World} {bU : Nat} {vR vO : Value} {R O : List Br} {U : Int → List Sp} {V : Int → Value} {D : DataW Value} (h : TopInv w1 w bU vR vO R O U V D) (o : Obj) : TopInv w1 (w.alloc o) bU vR vO R O U V D :=
  ⟨h.chg.alloc o, World.ownsRow.alloc h.r o, World.ownsRow.alloc h.o o, h.u.grown (World.grownBy_alloc w o none) (fun i e => by cases e), h.bu, h.ro, h.rU, h.oU⟩
theorem TopInv.setR {w1 w w' : World} {bU : Nat} {vR vO vR' : Value} {R R' O : List Br} {U : Int → List Sp} {V : Int → Value} {D : DataW Value} (h : TopInv w1 w bU vR vO R O U V D) (ho : OwnB w1.heap.size w' vR' R') (he : Ext2 w vR w' vR') : TopInv w1 w' bU vR' vO R' O U V D := by
  have hu := h.u.ext he h.rU
  refine ⟨chg_grown h.chg he.1 fun i hi => .inr (h.r.lt i hi).1, ho, h.o.grown he.1 ?_, hu.1, h.bu, fun i hi => ?_, hu.2, h.oU⟩
  · rcases hvo : vO.ownBlock with _ | j
    · exact .inl rfl
    · exact .inr fun e => h.ro j e.symm hvo
  · rcases he.2 with e | ⟨j, hj, e⟩
    · rw [e] at hi
      exact h.ro i hi
    · rw [e] at hi
      injection hi with hi
      subst hi
      intro e2
      have := (h.o.lt _ e2).2
      omega
theorem TopInv.setO {w1 w w' : World} {bU : Nat} {vR vO vO' : Value} {R O O' : List Br} {U : Int → List Sp} {V : Int → Value} {D : DataW Value} (h : TopInv w1 w bU vR vO R O U V D) (ho : OwnB w1.heap.size w' vO' O') (he : Ext2 w vO w' vO') : TopInv w1 w' bU vR vO' R O' U V D := by
  have hu := h.u.ext he h.oU
  refine ⟨chg_grown h.chg he.1 fun i hi => .inr (h.o.lt i hi).1, h.r.grown he.1 ?_, ho, hu.1, h.bu, fun i hi => ?_, h.rU, hu.2⟩
  · rcases hvo : vR.ownBlock with _ | j
    · exact .inl rfl
    · exact .inr fun e => h.ro j hvo e.symm
  · rcases he.2 with e | ⟨j, hj, e⟩
    · rw [e]
      exact h.ro i hi
    · rw [e]
      intro e2
      injection e2 with e2
      subst e2
      have := (h.r.lt _ hi).2
      omega
set_option maxRecDepth 20000 in
theorem TopInv.push {w1 Y : World} {bU : Nat} {vR vO : Value} {R O : List Br} {U : Int → List Sp} {V : Int → Value} {D : DataW Value} (h : TopInv w1 Y bU vR vO R O U V D) {k : Int} (hk : (Lit.int .i64 k).wf = true) (y : Sp) (hN : Maps.size D ≤ 1000) :
    ∃ p c, (∀ W : World, W.ownsMap Tryz.prog 3 heldS bU (Maps.size D) D → (Instr.lookup 262 (.map (some bU)) (.int .i64 k) false).run Tryz.prog W = .ok (.slice p (U k).length c) W) ∧ OwnS w1.heap.size Y (.slice p (U k).length c) (U k) ∧ (∀ i, (Value.slice p (U k).length c).ownBlock = some i → i ≠ bU ∧ w1.heap.size ≤ i ∧ i < Y.heap.size) ∧ (Maps.has D (.int .i64 k) = true ∧ Value.slice p (U k).length c = V k ∨ Maps.has D (.int .i64 k) = false ∧ Value.slice p (U k).length c = .slice none 0 0) ∧
      ∀ (o : Obj) (gg cap : Nat) (w2 : World), w2.ownsRow w1.heap.size 30 6 (.slice (some ⟨gg, 0, none⟩) ((U k).length + 1) cap) ((U k).length + 1) ((U k).flatMap spC ++ spC y) → ((Y.alloc o).drew).grownBy w2 (Value.slice p (U k).length c).ownBlock → ((Value.slice p (U k).length c).ownBlock = some gg ∨ gg = Y.heap.size + 1) →
        ∃ w3 V3 D3, (Instr.mapUpdate 262 (.map (some bU)) (.int .i64 k) (.slice (some ⟨gg, 0, none⟩) ((U k).length + 1) cap)).run Tryz.prog w2 = .ok () w3 ∧ TopInv w1 w3 bU vR vO R O (fun j => if j = k then U k ++ [y] else U j) V3 D3 ∧ Maps.size D3 ≤ Maps.size D + 1 ∧ w2.grownBy w3 (some bU) := by
  obtain ⟨v, hlk, hov, hvv⟩ := h.u.look2 hk
  obtain ⟨p, n, c, rfl⟩ := hov.sps.sl
  obtain rfl : n = (U k).length := hov.sps.len.1
  have hoff : ∀ i, (Value.slice p (U k).length c).ownBlock = some i → i ≠ bU ∧ (∀ j, j = vR.ownBlock ∨ j = vO.ownBlock → j ≠ some i) := fun i hi => by
    rcases hvv with ⟨hh, e⟩ | ⟨hh, e⟩
    · rw [e] at hi
      refine ⟨h.u.blk k i hh hi, fun j hj ej => ?_⟩
      subst ej
      rcases hj with hj | hj
      · exact (h.rU i hj.symm).2 k hh hi
      · exact (h.oU i hj.symm).2 k hh hi
    · rw [e] at hi
      cases hi
  refine ⟨p, c, hlk, hov, fun i hi => ⟨(hoff i hi).1, hov.lt i hi⟩, hvv, fun o gg cap w2 hown hgr hat => ?_⟩
  have hg0 : Y.grownBy w2 (Value.slice p (U k).length c).ownBlock := ⟨hgr.os, hgr.tape, hgr.output, by have := hgr.size; simp at this; omega, fun i hi hne => (hgr.block i (by simp; omega) hne).trans (heap_alloc_old _ _ hi)⟩
  have ho2 : OwnS w1.heap.size w2 (.slice (some ⟨gg, 0, none⟩) ((U k).length + 1) cap) (U k ++ [y]) := by
    unfold OwnS
    rw [List.flatMap_append, List.length_append]
    simpa using hown
  obtain ⟨w3, hrun, hg3, hu3, hs3, ho3⟩ := h.u.push hk hvv ho2 hg0 (by
    rcases hat with e | e
    · exact .inl e.symm
    · exact .inr ⟨gg, by omega, rfl⟩) (by omega)
  refine ⟨w3, _, _, hrun, ⟨?_, ?_, ?_, hu3, h.bu, h.ro, fun i hi => ho3 i (h.rU i hi) (h.r.lt i hi).2, fun i hi => ho3 i (h.oU i hi) (h.o.lt i hi).2⟩, hs3, hg3⟩
  · exact chg_grown (chg_grown h.chg hg0 fun i hi => .inr (hov.lt i hi).1) hg3 fun i hi => .inl (by injection hi with hi; exact hi.symm)
  · refine (h.r.grown hg0 ?_).grown hg3 ?_
    · rcases hvo : vR.ownBlock with _ | j
      · exact .inl rfl
      · exact .inr fun e => (hoff j e.symm).2 _ (.inl rfl) hvo
    · rcases hvo : vR.ownBlock with _ | j
      · exact .inl rfl
      · exact .inr fun e => (h.rU j hvo).1 (by injection e)
  · refine (h.o.grown hg0 ?_).grown hg3 ?_
    · rcases hvo : vO.ownBlock with _ | j
      · exact .inl rfl
      · exact .inr fun e => (hoff j e.symm).2 _ (.inr rfl) hvo
    · rcases hvo : vO.ownBlock with _ | j
      · exact .inl rfl
      · exact .inr fun e => (h.oU j hvo).1 (by injection e)
end Go.Proofs.YtionbmlicmibgaaGreatDoor
namespace Go.Proofs.YtionbmlicmibgaaGreatDoor
set_option linter.unusedVariables false
set_option linter.unusedSimpArgs false
open Go.RowKit
attribute [local go_sem ↓] Go.wp_at_zero Go.wp_at_succ
theorem run_makeUnder (w : World) : (Instr.makeMap 262 none).run Tryz.prog w = .ok (.map (some w.heap.size)) (w.alloc (.map #[] 0)) := by
  kernel_rfl
theorem spans_wf {tr : Int} {L : List Sp} (h : FoOk tr L) {x : Sp} (hx : x ∈ L) : (Lit.int .i64 x.i).wf = true ∧ (Lit.int .i64 x.p).wf = true := by
  obtain ⟨t1, t2, i1, i2, p1, p2, _⟩ := (Sp.ok_iff x).1 (h.ok x hx).1
  exact ⟨WalkArith.wf_i64 (by omega), WalkArith.wf_i64 (by omega)⟩
theorem brs_tops {L S : List Sp} (h : ∀ k, fnd S k = fnd L k) : brs S = (rootsB S ++ orphsB L S).flatMap fun x => unf S 64 x.d x.o x.s := by
  have e : orphs S = S.filter fun x => !(x.p == 0) && !(fnd L x.p).isSome := by
    unfold orphs
    simp only [h]
  unfold brs rootsB orphsB
  rw [List.flatMap_append, List.flatMap_map, List.flatMap_map, ← e]
theorem tops_mem {L S : List Sp} : ∀ x ∈ rootsB S ++ orphsB L S, x.s ∈ S ∧ x.d = 0 := by
  intro x hx
  rcases List.mem_append.1 hx with hx | hx
  · unfold rootsB roots at hx
    obtain ⟨s, hs, rfl⟩ := List.mem_map.1 hx
    exact ⟨(List.mem_filter.1 hs).1, rfl⟩
  · unfold orphsB at hx
    obtain ⟨s, hs, rfl⟩ := List.mem_map.1 hx
    exact ⟨(List.mem_filter.1 hs).1, rfl⟩
structure TopAt (w1 w : World) (bU : Nat) (L S : List Sp) (k : Nat) (vR vO : Value) : Prop where
  inv : ∃ V D, TopInv w1 w bU vR vO (rootsB (S.take k)) (orphsB L (S.take k)) (Uof L (S.take k)) V D ∧ Maps.size D ≤ k
set_option maxRecDepth 200000 in
set_option maxHeartbeats 1100000 in
theorem fromTop_any {w : World} {b : Nat} {L : List Sp} {D : DataW Value} {tr : Int} (h : BagIs w b L D) (hok : FoOk tr L) :
    Calls Tryz.prog 173 #[.map (some b)] w fun e w' => ∃ v', e = .returned v' ∧ OwnB w.heap.size w' v' (brs (sortS L)) ∧ Below w.heap.size w w' := by
  have hmk := run_makeUnder w
  have hbw := h.map.lt
  have hM : BagIs (w.alloc (.map #[] 0)) b L D := h.grown (World.grownBy_alloc w _ none) (by simp)
  have hsrt := sorted_any hM hok.len
  have hlen : (sortS L).length = L.length := sortS_length L
  obtain ⟨S, hS⟩ : ∃ S, sortS L = S := ⟨_, rfl⟩
  have hmem : ∀ y ∈ S, y ∈ L := fun y hy => (sortS_perm L).mem_iff.1 (by rw [hS]; exact hy)
  have hfS : ∀ k, fnd S k = fnd L k := fun k => by rw [← hS]; exact fnd_perm hok.ids (sortS_perm L) k
  have hokS : FoOk tr S := by rw [← hS]; exact hok.sort
  rw [hS] at hsrt hlen ⊢
  have HM := hide hM
  have HSRT := hide hsrt
  have HLEN := hide hlen
  have HOK := hide (And.intro hok hokS)
  have HMEM := hide hmem
  have HFS := hide hfS
  clear hM hsrt hlen hok hokS hmem hfS hS h
  go_enter Tryz.func173, Tryz.ntmps173
  go_wp2_with fail
  refine HSRT.out.mono ?_
  rintro e1 w1 ⟨v1, rfl, ho1, hb1⟩
  obtain ⟨pS, nS, cS, rfl⟩ := ho1.sps.sl
  have hnS := ho1.sps.len.1
  have hsz1 : w.heap.size + 1 ≤ w1.heap.size := by have := hb1.size; simpa using this
  have hinv0 : TopAt w1 w1 w.heap.size L S 0 (.slice none 0 0) (.slice none 0 0) := by
    refine ⟨fun _ => .slice none 0 0, .map [], ⟨Chg.refl _ _, OwnB.nil _ _, OwnB.nil _ _, ?_, by omega, fun i hi => (by cases hi), fun i hi => (by cases hi), fun i hi => (by cases hi)⟩, Nat.le_refl _⟩
    have h0 := (und_new w (Nat.le_refl _) (fun _ => .slice none 0 0)).map
    refine ⟨h0.kept (row := none) ⟨hb1.os, hb1.tape, hb1.output, hb1.size, fun k hk _ => hb1.block k hk⟩ (by simp), fun k h => (by cases h), fun k _ => ?_, fun k i h => (by cases h), fun k k' i h => (by cases h)⟩
    unfold Uof kids
    split <;> rfl
  have HS1 := hide ho1
  have HB1 := hide hb1
  have HNS := hide hnS
  have HI0 := hide hinv0
  have HSZ1 := hide hsz1
  clear ho1 hb1 hnS hinv0 hsz1 hmk
  go_wp2_with fail
  go_loopw [3, 4, 7, 8, 9, 17] (fun v3 v4 _ _ _ ix wr => ∃ (k : Nat) (pr po : Option Addr) (mr cr mo co : Nat), v3 = .slice pr mr cr ∧ v4 = .slice po mo co ∧ k ≤ S.length ∧ ix = .int .i64 k ∧ Hid (TopAt w1 wr w.heap.size L S k (.slice pr mr cr) (.slice po mo co))) (fun _ _ _ _ _ ix _ => S.length - (intOf ix).toNat)
  case atStart => exact ⟨0, none, none, 0, 0, 0, 0, rfl, rfl, Nat.zero_le _, rfl, HI0⟩
  case round =>
    obtain ⟨k, pr, po, mr, cr, mo, co, rfl, rfl, hk, rfl, HT⟩ := hrel
    have hS64 : S.length ≤ 64 := HOK.out.2.len
    by_cases hlt : (k : Int) < (nS : Int)
    · obtain ⟨gS, oS, rfl, hx⟩ := HS1.out.sps.at_ (by omega)
      obtain ⟨y, hy⟩ : ∃ y, S[k]? = some y := ⟨_, List.getElem?_eq_getElem (by have := HNS.out; omega)⟩
      have hgS : gS ≠ w.heap.size := by
        have := (HS1.out.lt gS rfl).1
        simp at this
        omega
      obtain ⟨V, D', hinv, hsz⟩ := HT.out.inv
      have hat : SpAt wr gS (oS + k * 6) y := fun j u hj => hinv.chg.cell (hx k y hy j u hj) hgS
      obtain ⟨oo, hoo⟩ : ∃ oo, oS + k * 6 = oo := ⟨_, rfl⟩
      rw [hoo] at hat
      have z0 := hat.c0
      have z1 := hat.c1
      have z2 := hat.c2
      have z3 := hat.c3
      have z4 := hat.c4
      have z5 := hat.c5
      have htk : S.take (k + 1) = S.take k ++ [y] := by rw [List.take_add_one, hy]; rfl
      have hyL := HMEM.out y (List.mem_of_getElem? hy)
      have hwf := (spans_wf HOK.out.1 hyL).2
      have hw1 := hinv.chg.size
      have hkS : k < S.length := (List.getElem?_eq_some_iff.1 hy).1
      have hX := hinv.alloc (.cells #[.int .i64 y.t, .int .i64 y.i, .int .i64 y.p, .int .i64 y.s, .int .i64 y.e, .string y.n] 30)
      have hrl : (rootsB (S.take k)).length ≤ 1100000 := by
        unfold rootsB roots
        rw [List.length_map]
        have := List.length_filter_le (fun x : Sp => x.p == 0) (S.take k)
        rw [List.length_take] at this
        omega
      have hol : (orphsB L (S.take k)).length ≤ 1100000 := by
        unfold orphsB
        rw [List.length_map]
        have := List.length_filter_le (fun x : Sp => !(x.p == 0) && !(fnd L x.p).isSome) (S.take k)
        rw [List.length_take] at this
        omega
      have HX := hide hX
      have HINV := hide (And.intro hinv hsz)
      have HTK := hide htk
      have HW1 := hide hw1
      have HRL := hide (And.intro hrl hol)
      have HKS := hide hkS
      have hbX := HM.out.chg (T := fun i => i = w.heap.size) (w' := wr.alloc (.cells #[.int .i64 y.t, .int .i64 y.i, .int .i64 y.p, .int .i64 y.s, .int .i64 y.e, .string y.n] 30)) ((Chg.of_below HB1.out (fun i => i = w.heap.size)).trans (hinv.chg.alloc _) (fun i hi => .inl hi)) (by omega)
      have HBX := hide hbX
      have hnew := spAt_new wr y
      have HNEW := hide hnew
      clear hx hinv hsz hat htk hX hrl hol hw1 hbX hnew hyL hy
      by_cases hp : y.p = 0
      · have HP := hide hp
        obtain ⟨t, i, q, s, e, nm⟩ := y
        dsimp only at *
        subst hp
        go_wp2_with (at_builtin; go_must (refine wpList_pushB (v := .slice pr mr cr) rfl _ _ rfl rfl ⟨0, false, ⟨t, i, 0, s, e, nm⟩⟩ rfl rfl (by simp) HX.out.r (by have := HW1.out; simp; omega) HRL.out.1 ?_); intro v5 w5 ho5 he5; obtain ⟨p5, m5, c5, rfl⟩ := ho5.brs.sl; have HO5 := hide (HX.out.setR ho5 he5); clear ho5 he5)
        go_roundw
        case rel =>
          refine ⟨k + 1, p5, po, m5, c5, mo, co, rfl, rfl, by have := HKS.out; omega, by go_num, hide ⟨V, D', ?_, Nat.le_succ_of_le HINV.out.2⟩⟩
          rw [HTK.out, rootsB_snoc, orphsB_snoc, Uof_root (.inl rfl), if_pos rfl, if_neg (fun h => h.1 rfl), List.append_nil]
          exact HO5.out
        case measure => simp [intOf]; have := HKS.out; omega
      · have hb0 : (y.p == 0) = false := beq_eq_false_iff_ne.2 hp
        have hl := (HBX.out.look hwf 0).1
        cases hf : fnd L y.p with
        | none =>
          rw [hf] at hl
          have hl1 : (Instr.lookup 230 (.map (some b)) (.int .i64 y.p) true).run Tryz.prog (wr.alloc (.cells #[.int .i64 y.t, .int .i64 y.i, .int .i64 y.p, .int .i64 y.s, .int .i64 y.e, .string y.n] 30)) = .ok (.tuple #[.agg #[.int .i64 0, .int .i64 0, .int .i64 0, .int .i64 0, .int .i64 0, .string ByteArray.empty], .bool false]) (wr.alloc (.cells #[.int .i64 y.t, .int .i64 y.i, .int .i64 y.p, .int .i64 y.s, .int .i64 y.e, .string y.n] 30)) := hl
          have HP := hide (And.intro hp hf)
          have HY := hide (HX.out.alloc (.cells #[.int .i64 0, .int .i64 0, .int .i64 0, .int .i64 0, .int .i64 0, .string ByteArray.empty] 30))
          obtain ⟨t, i, q, s, e, nm⟩ := y
          dsimp only at *
          clear hl hf
          go_wp2_with (at_builtin; go_must (refine wpList_pushB (v := .slice po mo co) rfl _ _ rfl rfl ⟨0, true, ⟨t, i, q, s, e, nm⟩⟩ rfl rfl (by simp) HY.out.o (by have := HW1.out; simp; omega) HRL.out.2 ?_); intro v5 w5 ho5 he5; obtain ⟨p5, m5, c5, rfl⟩ := ho5.brs.sl; have HO5 := hide (HY.out.setO ho5 he5); clear ho5 he5)
          go_roundw
          case rel =>
            refine ⟨k + 1, pr, p5, mr, cr, m5, c5, rfl, rfl, by have := HKS.out; omega, by go_num, hide ⟨V, D', ?_, Nat.le_succ_of_le HINV.out.2⟩⟩
            rw [HTK.out, rootsB_snoc, orphsB_snoc, Uof_root (.inr HP.out.2), if_neg HP.out.1, if_pos HP.out, List.append_nil]
            exact HO5.out
          case measure => simp [intOf]; have := HKS.out; omega
        | some u =>
          rw [hf] at hl
          have hl1 : (Instr.lookup 230 (.map (some b)) (.int .i64 y.p) true).run Tryz.prog (wr.alloc (.cells #[.int .i64 y.t, .int .i64 y.i, .int .i64 y.p, .int .i64 y.s, .int .i64 y.e, .string y.n] 30)) = .ok (.tuple #[.agg #[.int .i64 u.t, .int .i64 u.i, .int .i64 u.p, .int .i64 u.s, .int .i64 u.e, .string u.n], .bool true]) (wr.alloc (.cells #[.int .i64 y.t, .int .i64 y.i, .int .i64 y.p, .int .i64 y.s, .int .i64 y.e, .string y.n] 30)) := hl
          have hpu : ¬ (y.p = 0 ∨ fnd L y.p = none) := by rw [hf]; simpa using hp
          have HP := hide hpu
          have hbox := spAt_new wr y
          have hY := HX.out.alloc (.cells #[.int .i64 u.t, .int .i64 u.i, .int .i64 u.p, .int .i64 u.s, .int .i64 u.e, .string u.n] 30)
          have hboxY := hbox.grown (World.grownBy_alloc _ (.cells #[.int .i64 u.t, .int .i64 u.i, .int .i64 u.p, .int .i64 u.s, .int .i64 u.e, .string u.n] 30) none) (by simp)
          obtain ⟨pv, cv, hE, hov, hnv, hvv, hpush⟩ := hY.push hwf y (by have := HINV.out.2; have := HKS.out; omega)
          obtain ⟨Y, hYd⟩ : ∃ Y, (wr.alloc (.cells #[.int .i64 y.t, .int .i64 y.i, .int .i64 y.p, .int .i64 y.s, .int .i64 y.e, .string y.n] 30)).alloc (.cells #[.int .i64 u.t, .int .i64 u.i, .int .i64 u.p, .int .i64 u.s, .int .i64 u.e, .string u.n] 30) = Y := ⟨_, rfl⟩
          have hYs : w1.heap.size ≤ Y.heap.size := by rw [← hYd]; have := HW1.out; simp; omega
          rw [hYd] at hY hboxY hov hnv hpush
          have hmY := hY.u.map
          have HYD := hide hYd
          obtain ⟨n, hn⟩ : ∃ n, (Uof L (S.take k) y.p).length = n := ⟨_, rfl⟩
          have hn64 : n ≤ 64 := by
            rw [← hn]
            unfold Uof
            split
            · simp
            · unfold kids
              have := List.length_filter_le (fun x : Sp => x.p == y.p) (S.take k)
              rw [List.length_take] at this
              omega
          rw [hn] at hE hov hnv hvv hpush
          obtain ⟨y0, y1, y2, y3, y4, y5⟩ := hboxY.z
          have hwrY : wr.heap.size < Y.heap.size := by rw [← hYd]; simp; omega
          have HE0 : (Instr.lookup 262 (.map (some w.heap.size)) (.int .i64 y.p) false).run Tryz.prog Y = .ok (.slice pv n cv) Y := hE Y hmY
          have hmd : ∀ o, (Y.alloc o).drew.ownsMap Tryz.prog 3 heldS w.heap.size (Maps.size D') D' := fun o => by
            have := hmY.kept (World.grownBy_alloc Y o none) (by simp)
            exact this
          have HEa := hide (fun o => hE (Y.alloc o) (hmY.kept (World.grownBy_alloc Y o none) (by simp)))
          have HEd : Hid (∀ o, (Instr.lookup 262 (.map (some w.heap.size)) (.int .i64 y.p) false).run Tryz.prog (Y.alloc o).drew = .ok (.slice pv n cv) (Y.alloc o).drew) := hide (fun o => hE (Y.alloc o).drew (show (Y.alloc o).ownsMap Tryz.prog 3 heldS w.heap.size (Maps.size D') D' from hmY.kept (World.grownBy_alloc Y o none) (by simp)))
          have HEq : Hid (∀ q, (Instr.lookup 262 (.map (some w.heap.size)) (.int .i64 y.p) false).run Tryz.prog (Y.drewN q) = .ok (.slice pv n cv) (Y.drewN q)) := hide (fun q => hE (Y.drewN q) hmY)
          have HEg : Hid (∀ o w2, ((Y.alloc o).drew).grownBy w2 (Value.slice pv n cv).ownBlock → (Instr.lookup 262 (.map (some w.heap.size)) (.int .i64 y.p) false).run Tryz.prog w2 = .ok (.slice pv n cv) w2) := hide (fun o w2 hg => hE w2 ((hmd o).kept hg (fun e => (hnv _ e.symm).1 rfl)))
          have HNV : Hid ((Value.slice pv n cv).ownBlock ≠ some wr.heap.size) := hide (fun e => by
            rcases hvv with ⟨hh, ev⟩ | ⟨_, ev⟩
            · have := ((HINV.out.1.u.vals _ hh).2.lt _ (by rw [← ev]; exact e)).2
              omega
            · rw [ev] at e
              cases e)
          have HOV : Hid (Y.ownsRow w1.heap.size 30 6 (.slice pv n cv) n ((Uof L (S.take k) y.p).flatMap spC)) := hide (by
            have := hov
            unfold OwnS at this
            rw [hn] at this
            exact this)
          have HPUSH := hide hpush
          have HNB : Hid (wr.heap.size ≠ w.heap.size) := hide (by have := HW1.out; have := HSZ1.out; omega)
          have HNN := hide hn
          obtain ⟨i0, hi0, hzz0, hzz1, hzz2⟩ := info_parts Tryz.infoSp
          obtain ⟨t, i, q, s, e, nm⟩ := y
          obtain ⟨ut, ui, up, us, ue, un⟩ := u
          dsimp only at *
          clear hl hf hpu hbox hY hboxY hE hov hnv hvv hpush hYd hmY hmd hn
          go_wp2_with fail
          rw [HYD.out]
          have hqd : ∀ o, (Instr.lookup 262 (.map (some w.heap.size)) (.int .i64 q) false).run Tryz.prog (Y.alloc o).drew = .ok (.slice pv n cv) (Y.alloc o).drew := HEd.out
          have hqd' : (Instr.lookup 262 (.map (some w.heap.size)) (.int .i64 q) false).run Tryz.prog Y.drew = .ok (.slice pv n cv) Y.drew := HEq.out 1
          go_region_held3 (fun W => W.cell? ⟨wr.heap.size, 0, none⟩ = some (.int .i64 t) ∧ W.cell? ⟨wr.heap.size, 1, none⟩ = some (.int .i64 i) ∧ W.cell? ⟨wr.heap.size, 2, none⟩ = some (.int .i64 q) ∧ W.cell? ⟨wr.heap.size, 3, none⟩ = some (.int .i64 s) ∧ W.cell? ⟨wr.heap.size, 4, none⟩ = some (.int .i64 e) ∧ W.cell? ⟨wr.heap.size, 5, none⟩ = some (.string nm))
            (first
              | go_keep
              | (go_split_ands
                 refine ⟨?_, ?_, ?_, ?_, ?_, ?_⟩ <;> (rw [hgrow.cell_far _ (by simp; omega) (Ne.symm HNV.out)]; assumption))
              | (go_split_ands
                 refine ⟨?_, ?_, ?_, ?_, ?_, ?_⟩ <;> (rw [hg3.cell_far _ (by have := hgrow.size; simp at this ⊢; omega) (fun e => HNB.out (by injection e))]; assumption)))
            ((refine step_append_lies _ (by rfl) _ _ _ (by rfl) w1.heap.size 30 i0 _ 6 56 Tryz.underlying22 hi0 hzz0 hzz1 hzz2 rfl (by omega) (.slice pv n cv) n _ (by rfl) ((World.ownsRow.alloc HOV.out _).drew)
                ⟨Y.heap.size, 0, none⟩ 1 1 [.int .i64 t, .int .i64 i, .int .i64 q, .int .i64 s, .int .i64 e, .string nm] (by rfl) (by rfl) (World.news_of_block (cs := #[.int .i64 t, .int .i64 i, .int .i64 q, .int .i64 s, .int .i64 e, .string nm]) (t := 30) (fr := (0, 0)) (heap_alloc_new Y _)) (by simp [Value.oneCell'])
                (by omega) (by simp only [maxLen]; omega) (by omega) (by simp; omega) (Y.heap.size + 1) (by simp) ?_; intro gg cap w2 hown1 hgrow hat2 hlt2; obtain ⟨w3, V3, D3, hrun, hinv3, hsz3, hg3⟩ := HPUSH.out _ gg cap w2 hown1 hgrow hat2; have HI3 := hide (And.intro hinv3 hsz3); clear hinv3 hsz3))
          all_goals
            go_wp2
            go_roundw
            case rel =>
              refine ⟨k + 1, pr, po, mr, cr, mo, co, rfl, rfl, by have := HKS.out; omega, by go_num, hide ⟨V3, D3, ?_, Nat.le_trans HI3.out.2 (Nat.succ_le_succ HINV.out.2)⟩⟩
              rw [HTK.out, rootsB_snoc, orphsB_snoc, Uof_kid HP.out, if_neg (fun h => HP.out (.inl h)), if_neg (fun h => HP.out (.inr h.2)), List.append_nil, List.append_nil]
              exact HI3.out.1
            case measure => simp [intOf]; have := HKS.out; omega
    · have hkS : k = S.length := by have := HNS.out; omega
      subst hkS
      obtain ⟨V, D', hinv, hsz⟩ := HT.out.inv
      rw [List.take_length] at hinv
      have hrl : (rootsB S).length ≤ 64 := by
        unfold rootsB roots
        rw [List.length_map]
        have := List.length_filter_le (fun x : Sp => x.p == 0) S
        omega
      have hol : (orphsB L S).length ≤ 64 := by
        unfold orphsB
        rw [List.length_map]
        have := List.length_filter_le (fun x : Sp => !(x.p == 0) && !(fnd L x.p).isSome) S
        omega
      have HINV := hide hinv
      have HL2 := hide (And.intro hrl hol)
      clear hinv hsz hrl hol
      go_wp2_with (at_builtin; go_must (refine wpList_pushesB rfl _ _ rfl rfl rfl rfl HINV.out.r HINV.out.o.brs HINV.out.chg.size (by have := HL2.out; omega) ?_); intro v5 w5 ho5 hb5 hg5; obtain ⟨p5, m5, c5, rfl⟩ := ho5.brs.sl; have hu5 := HINV.out.u.grown hg5 HINV.out.rU; have hc5 := chg_grown HINV.out.chg hg5 (fun i hi => .inr (HINV.out.r.lt i hi).1); have hm5 := ho5.brs.len.1; have H5 := hide (And.intro ho5 (And.intro hu5 (And.intro hc5 hm5))); clear ho5 hb5 hg5 hu5 hc5 hm5)
      obtain ⟨T, hT⟩ : ∃ T, rootsB S ++ orphsB L S = T := ⟨_, rfl⟩
      rw [hT] at H5
      obtain ⟨r, hr⟩ := HOK.out.2.tidy
      have htop : brs S = T.flatMap fun x => unf S 64 x.d x.o x.s := by rw [← hT]; exact brs_tops HFS.out
      have hTm : ∀ x ∈ T, x.s ∈ S ∧ x.d = 0 := by rw [← hT]; exact tops_mem
      have HTOP := hide (And.intro htop (brs_len hr hS64))
      have HTM := hide hTm
      have HDEEP := hide (fun t (ht : t ∈ S) => deep_all hr ht hS64)
      have hUS : ∀ t ∈ S, Uof L S t.i = kids S t.i := fun t ht => by
        unfold Uof
        rw [if_neg]
        rintro (h0 | h0)
        · have := hr.pos t ht
          omega
        · rw [fnd_of HOK.out.1.ids (HMEM.out t ht)] at h0
          cases h0
      have hwfS : ∀ t ∈ S, (Lit.int .i64 t.i).wf = true := fun t ht => (spans_wf HOK.out.2 ht).1
      have HUS := hide (And.intro hUS hwfS)
      have hm128 : m5 ≤ 128 := by
        have h1 := H5.out.2.2.2
        rw [← hT, List.length_append] at h1
        have := HL2.out
        omega
      clear hT htop hTm hr hUS hwfS
      go_loopw [10, 12, 57] (fun v _ ix wr => ∃ (k : Nat) (p : Option Addr) (m c : Nat), v = .slice p m c ∧ k ≤ T.length ∧ ix = .int .i64 k ∧ Hid (OwnB w5.heap.size wr (.slice p m c) ((T.take k).flatMap fun x => unf S 64 x.d x.o x.s) ∧ Ext2 w5 (.slice none 0 0) wr (.slice p m c))) (fun _ _ ix _ => T.length - (intOf ix).toNat)
      case atStart => exact ⟨0, none, 0, 0, rfl, Nat.zero_le _, rfl, hide ⟨OwnB.nil _ _, Ext2.refl _ _⟩⟩
      case round =>
        obtain ⟨k, p, m, c, rfl, hk2, rfl, HR⟩ := hrel
        by_cases hlt2 : (k : Int) < (m5 : Int)
        · obtain ⟨gT, oT, rfl, hx⟩ := H5.out.1.brs.at_ (by omega)
          obtain ⟨x, hxk⟩ : ∃ x, T[k]? = some x := ⟨_, List.getElem?_eq_getElem (by have := H5.out.2.2.2; omega)⟩
          have hat : BrAt wr gT (oT + k * 8) x := fun j u hj => cell_ext HR.out.2 (hx k x hxk j u hj) (by simp [Value.ownBlock])
          obtain ⟨oo, hoo⟩ : ∃ oo, oT + k * 8 = oo := ⟨_, rfl⟩
          rw [hoo] at hat
          have z0 := hat.c0
          have z1 := hat.c1
          have z2 := hat.c2
          have z3 := hat.c3
          have z4 := hat.c4
          have z5 := hat.c5
          have z6 := hat.c6
          have z7 := hat.c7
          have hkT : k < T.length := (List.getElem?_eq_some_iff.1 hxk).1
          have htk : T.take (k + 1) = T.take k ++ [x] := by rw [List.take_add_one, hxk]; rfl
          obtain ⟨hxS, hxd⟩ := HTM.out x (List.mem_of_getElem? hxk)
          have hbig : ((T.take k).flatMap fun x => unf S 64 x.d x.o x.s).length + (unf S 64 x.d x.o x.s).length ≤ 1100000 := by
            have h1 := HTOP.out.2
            rw [HTOP.out.1, ← List.take_append_drop (k + 1) T, htk, List.flatMap_append, List.flatMap_append, List.length_append, List.length_append] at h1
            have h2 : ([x].flatMap fun x => unf S 64 x.d x.o x.s) = unf S 64 x.d x.o x.s := by simp
            rw [h2] at h1
            omega
          have hu := H5.out.2.1.ext HR.out.2 (fun i hi => by cases hi)
          have hbox := Ext2.alloc wr (.slice p m c) (.cells #[.int .i64 x.d, .bool x.o, .int .i64 x.s.t, .int .i64 x.s.i, .int .i64 x.s.p, .int .i64 x.s.s, .int .i64 x.s.e, .string x.s.n] 90)
          have hcall := unfold_any (B := w5.heap.size) HUS.out.1 HUS.out.2 64 (wr.alloc (.cells #[.int .i64 x.d, .bool x.o, .int .i64 x.s.t, .int .i64 x.s.i, .int .i64 x.s.p, .int .i64 x.s.s, .int .i64 x.s.e, .string x.s.n] 90)) p m c _ x hxS (HDEEP.out _ hxS) (hu.1.ext hbox hu.2).1 hu.2 (by have := HR.out.2.1.size; simp; omega) (show OwnB w5.heap.size (wr.alloc _) (.slice p m c) _ from World.ownsRow.alloc HR.out.1 _) (by omega) (by omega) hbig
          have HC := hide hcall
          have HBOX := hide hbox
          have HTK := hide htk
          have HKT := hide hkT
          clear hx hxk hat hcall htk hxS hxd hbig hu hbox hkT
          obtain ⟨xd, xo, xt, xi, xp, xs, xe, xn⟩ := x
          dsimp only at *
          go_wp2_with fail
          refine HC.out.mono ?_
          rintro e6 w6 ⟨p6, m6, c6, rfl, ho6, he6⟩
          have H6 := hide (And.intro ho6 ((HR.out.2.trans HBOX.out).trans he6))
          clear ho6 he6
          go_wp2
          go_roundw
          case rel =>
            refine ⟨k + 1, p6, m6, c6, rfl, by have := HKT.out; omega, by go_num, hide ⟨?_, H6.out.2⟩⟩
            rw [HTK.out, List.flatMap_append]
            have h2 : ([(⟨xd, xo, ⟨xt, xi, xp, xs, xe, xn⟩⟩ : Br)].flatMap fun x => unf S 64 x.d x.o x.s) = unf S 64 xd xo ⟨xt, xi, xp, xs, xe, xn⟩ := by simp
            rw [h2]
            exact H6.out.1
          case measure => simp [intOf]; have := HKT.out; omega
        · have hkT : k = T.length := by have := H5.out.2.2.2; omega
          subst hkT
          have hfin := HR.out.1
          rw [List.take_length, ← HTOP.out.1] at hfin
          have hb5 : Below w.heap.size w w5 := by
            have hb0 : Below w.heap.size w w1 := ((Below.refl w.heap.size w).alloc (Nat.le_refl _) (.map #[] 0)).trans (HB1.out.mono (by simp))
            exact Chg.to_below hb0 H5.out.2.2.1 (fun i hi => by omega)
          have hbf : Below w.heap.size w wr := hb5.grown HR.out.2.1 hb5.size (fun i hi => by cases hi)
          have HF := hide (And.intro (hfin.mono hb5.size) hbf)
          clear hfin hb5 hbf
          go_wp2
          go_ret
          exact ⟨_, rfl, HF.out.1, HF.out.2⟩
end Go.Proofs.YtionbmlicmibgaaGreatDoor
namespace Go.Proofs.YtionbmlicmibgaaGreatDoor
set_option linter.unusedVariables false
set_option linter.unusedSimpArgs false
open Go.RowKit
def cnV (c : Cn) : Value := .agg #[.int .i64 (c.add : Nat), .int .i64 (c.same : Nat), .int .i64 (c.other : Nat), .int .i64 (c.cyc : Nat), .int .i64 (c.full : Nat)]
def NoF (w : World) (v : Value) : Prop := v = .pointer none ∨ ∃ g, v = .pointer (some ⟨g, 0, none⟩) ∧ w.cell? ⟨g, 0, none⟩ = some (.map none)
theorem run_none_map (w : World) : (binOp .neq 230 (.map none) (.map none)).run Tryz.prog w = .ok (.bool false) w := by
  kernel_rfl
set_option maxRecDepth 200000 in
set_option maxHeartbeats 1100000 in
theorem made_no {w : World} {v : Value} (h : NoF w v) : Calls Tryz.prog 172 #[v] w fun e w' => e = .returned (.bool false) ∧ ∃ q, w' = w.drewN q := by
  rcases h with rfl | ⟨g, rfl, c0⟩
  · go_enter Tryz.func172, Tryz.ntmps172
    go_wp2
    go_ret
    exact ⟨rfl, 0, rfl⟩
  · have hneq := run_none_map
    go_enter Tryz.func172, Tryz.ntmps172
    go_wp2
    go_ret
    exact ⟨rfl, 0, rfl⟩
set_option maxRecDepth 200000 in
set_option maxHeartbeats 1100000 in
theorem branches_no {w : World} {v : Value} (h : NoF w v) : Calls Tryz.prog 134 #[v] w fun e w' => e = .returned (.slice none 0 0) ∧ Below w.heap.size w w' := by
  have HM := hide (made_no h)
  clear h
  go_enter Tryz.func134, Tryz.ntmps134
  go_wp2_with fail
  refine HM.out.mono ?_
  rintro e1 w1 ⟨rfl, q, rfl⟩
  go_wp2
  go_ret
  exact ⟨rfl, bdrew _ q⟩
end Go.Proofs.YtionbmlicmibgaaGreatDoor
namespace Go.Proofs.YtionbmlicmibgaaGreatDoor
set_option linter.unusedVariables false
set_option linter.unusedSimpArgs false
open Go.RowKit
theorem run_makeBag (w : World) : (Instr.makeMap 230 none).run Tryz.prog w = .ok (.map (some w.heap.size)) (w.alloc (.map #[] 0)) := by
  kernel_rfl
set_option maxRecDepth 200000 in
set_option maxHeartbeats 1100000 in
theorem new_any {w : World} {tr : Int} (h1 : 1 ≤ tr) (h2 : tr ≤ 1099511627776) : Calls Tryz.prog 212 #[.int .i64 tr] w fun e w' => e = .returned (.pointer (some ⟨w.heap.size + 1, 0, none⟩)) ∧ FoIs w' (w.heap.size + 1) w.heap.size tr [] ∧ Below w.heap.size w w' := by
  have hmk := fun q => run_makeBag (w.drewN q)
  have hmk0 := run_makeBag w
  go_enter Tryz.func212, Tryz.ntmps212
  go_wp2
  go_ret
  have hs : (w.alloc (.map #[] 0)).heap.size = w.heap.size + 1 := by simp
  have b1 := (Below.refl w.heap.size w).alloc (Nat.le_refl _) (.map #[] 0)
  refine ⟨rfl, ⟨?_, ?_, by omega, ⟨_, (bag_new w).grown (World.grownBy_alloc _ _ none) (by simp)⟩, ⟨List.Pairwise.nil, noRing_nil, fun x hx => by simp at hx, by simp⟩⟩, b1.alloc b1.size _⟩
  · rw [← hs]
    exact cell_of_row _ _ 0 _ 232 (0, 0) (heap_alloc_new (w.alloc (.map #[] 0)) _)
  · rw [← hs]
    exact cell_of_row _ _ 1 _ 232 (0, 0) (heap_alloc_new (w.alloc (.map #[] 0)) _)
end Go.Proofs.YtionbmlicmibgaaGreatDoor
