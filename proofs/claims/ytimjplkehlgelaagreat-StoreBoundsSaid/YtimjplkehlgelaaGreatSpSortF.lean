/- Spans sorted: slices.SortFunc, the program's Sort and Less. -/
import Derived.Shelf.SlSortCmp.NoneTotal
import Derived.Test.YtimjplkehlgelaaGreatSpCompare
namespace Go.Proofs.YtimjplkehlgelaaGreat
set_option linter.unusedVariables false
set_option linter.unusedSimpArgs false
open Go.RowKit Go.Sort Go.Lib

theorem holdsSp {B : Nat} {w : World} {g cap : Nat} {l : List Sp} (h : OwnS B w (.slice (some ⟨g, 0, none⟩) l.length cap) l) : HoldsK spC 6 w g 0 l.toArray := by
  obtain ⟨hl, ⟨e, _⟩ | ⟨g', cap', cur, e, hB, hh, hc, hm, hs, ht⟩⟩ := h
  · cases e
  · injection e with e1 e2 e3
    injection e1 with e1
    injection e1 with e1
    subst e1 e3
    intro j hj
    rw [size_flatK] at hj
    have hj' : j < l.length * 6 := by simpa using hj
    refine ⟨?_, by rw [Nat.zero_add]; exact frozen_of_row w g j cur 38 hh⟩
    rw [get_flatK _ _ _ _ hj, Nat.zero_add, cell_of_row w g j cur 38 (0, 0) hh]
    have hx : l[j / 6]? = some (l[j / 6]'(by omega)) := List.getElem?_eq_getElem _
    have h1 := flat_at l (j / 6) (j % 6) hx (Nat.mod_lt _ (by omega))
    rw [show j / 6 * 6 + j % 6 = j by omega, ← ht, List.getElem?_take_of_lt (by omega), Array.getElem?_toList] at h1
    rw [h1]
    have h2 : l.toArray[j / 6]! = l[j / 6]'(by omega) := by
      rw [getElem!_pos l.toArray (j / 6) (by simp; omega)]
      simp
    rw [h2]
    rw [List.getElem?_eq_getElem (by rw [spC_length]; omega)]
    congr 1
    rw [getElem!_pos (spC (l[j / 6]'(by omega))) (j % 6) (by rw [spC_length]; omega)]
    rfl

theorem row_put {w : World} {g : Nat} {cur : Array Value} {e : TypeId} (h : w.heap[g]? = some (Obj.cells cur e (0, 0))) (d : Array Sp) :
    (putRowK spC 6 w g 0 d).heap[g]? = some (Obj.cells (putCells id 0 (flatK spC 6 d) cur) e (0, 0)) := by
  unfold putRowK putRow mapBlock
  simp [Array.getElem?_modify, h, onCells]
theorem row_put_other {w : World} {g k : Nat} (d : Array Sp) (hk : k ≠ g) : (putRowK spC 6 w g 0 d).heap[k]? = w.heap[k]? := by
  unfold putRowK putRow mapBlock
  simp only [Array.getElem?_modify]
  rw [if_neg (Ne.symm hk)]

/-- What the sort leaves. -/
theorem sorted_own {B : Nat} {w : World} {g cap n : Nat} {l m : List Sp} {os : Array Obj} (h : OwnS B w (.slice (some ⟨g, 0, none⟩) l.length cap) l) (hml : m.length = l.length) :
    OwnS B (grow (putRowK spC 6 (Sort.ahead w n) g 0 m.toArray) os) (.slice (some ⟨g, 0, none⟩) l.length cap) m ∧ w.grownBy (grow (putRowK spC 6 (Sort.ahead w n) g 0 m.toArray) os) (some g) := by
  have hold := holdsSp h
  obtain ⟨hl, ⟨e, _⟩ | ⟨g', cap', cur, e, hB, hh, hc, hm, hs, ht⟩⟩ := h
  · cases e
  · injection e with e1 e2 e3
    injection e1 with e1
    injection e1 with e1
    subst e1 e3
    have hg : g < w.heap.size := (Array.getElem?_eq_some_iff.1 hh).1
    have hh' : (Sort.ahead w n).heap[g]? = some (Obj.cells cur 38 (0, 0)) := hh
    have hp := row_put hh' m.toArray
    have hgs : g < (putRowK spC 6 (Sort.ahead w n) g 0 m.toArray).heap.size := (Array.getElem?_eq_some_iff.1 hp).1
    have hgr : (grow (putRowK spC 6 (Sort.ahead w n) g 0 m.toArray) os).heap[g]? = some (Obj.cells (putCells id 0 (flatK spC 6 m.toArray) cur) 38 (0, 0)) := by
      show ((putRowK spC 6 (Sort.ahead w n) g 0 m.toArray).heap ++ os)[g]? = _
      rw [Array.getElem?_append_left hgs, hp]
    have hH := holdsK_grow spC 6 _ os g 0 _ hgs (holdsK_putRowK spC 6 (Sort.ahead w n) g 0 l.toArray m.toArray (holdsK_ahead spC 6 w n g 0 _ hold) (by simp [hml]))
    refine ⟨⟨by rw [flat_len], .inr ⟨g, cap, _, by rw [hml], hB, hgr, by omega, hm, by simp [putCells, hs], ?_⟩⟩, ⟨rfl, rfl, rfl, ?_, fun k hk hne => ?_⟩⟩
    · apply List.ext_getElem?
      intro j
      by_cases hj : j < l.length * 6
      · rw [List.getElem?_take_of_lt (by omega), Array.getElem?_toList]
        have hcell := (hH.cell (i := j / 6) (c := j % 6) (by simp; omega) (Nat.mod_lt _ (by omega))).1
        rw [cell_of_row _ g _ _ 38 (0, 0) hgr, Nat.zero_add, show j / 6 * 6 + j % 6 = j by omega] at hcell
        rw [hcell]
        have hx : m[j / 6]? = some (m[j / 6]'(by omega)) := List.getElem?_eq_getElem _
        have h1 := flat_at m (j / 6) (j % 6) hx (Nat.mod_lt _ (by omega))
        rw [show j / 6 * 6 + j % 6 = j by omega] at h1
        rw [h1]
        have h2 : m.toArray[j / 6]! = m[j / 6]'(by omega) := by
          rw [getElem!_pos m.toArray (j / 6) (by simp; omega)]
          simp
        rw [h2, List.getElem?_eq_getElem (by rw [spC_length]; omega), getElem!_pos (spC (m[j / 6]'(by omega))) (j % 6) (by rw [spC_length]; omega)]
      · rw [List.getElem?_eq_none (by rw [List.length_take]; omega), List.getElem?_eq_none (by rw [flat_len]; omega)]
    · show w.heap.size ≤ ((putRowK spC 6 (Sort.ahead w n) g 0 m.toArray).heap ++ os).size
      have : (putRowK spC 6 (Sort.ahead w n) g 0 m.toArray).heap.size = w.heap.size := size_putRow _ _ _ _ _
      rw [Array.size_append]
      omega
    · have hkg : k ≠ g := fun e => hne (by rw [e])
      have hks : k < (putRowK spC 6 (Sort.ahead w n) g 0 m.toArray).heap.size := by
        have : (putRowK spC 6 (Sort.ahead w n) g 0 m.toArray).heap.size = w.heap.size := size_putRow _ _ _ _ _
        omega
      show ((putRowK spC 6 (Sort.ahead w n) g 0 m.toArray).heap ++ os)[k]? = _
      rw [Array.getElem?_append_left hks, row_put_other _ hkg]
      rfl

theorem lt_of_cmp : ltOf cmpS = ltS := rfl
theorem cmp_lays (blk off size : Nat) (w : World) : CmpLays Tryz.prog 111 #[] spC 6 cmpS blk off size w := fun _ _ _ _ x y => compare_any x y _

set_option maxRecDepth 200000 in
set_option maxHeartbeats 1000000 in
/-- slices.SortFunc at spans. -/
theorem sortFunc_any {B : Nat} {w : World} {v : Value} {l : List Sp} (h : OwnS B w v l) (hl : l.length ≤ 1000000) :
    Calls Tryz.prog 110 #[v, .func (.func 111) #[] #[]] w fun e w' => e = .returned (.tuple #[]) ∧ OwnS B w' v (sortS l) ∧ w.grownBy w' v.ownBlock := by
  have h' := h
  obtain ⟨hll, ⟨rfl, h0⟩ | ⟨g, cap, cur, rfl, hB, hh, hc, hm, hs, ht⟩⟩ := h
  · obtain rfl : l = [] := List.eq_nil_of_length_eq_zero h0
    exact (AnyF.slices_SortFunc_none { Tryz.sortSp with } none 0 (.func (.func 111) #[] #[]) w).mono fun e w' ⟨he, hw⟩ => ⟨he, by rw [hw, show sortS [] = [] by simp [sortS]]; exact h', by rw [hw]; exact World.grownBy.refl _ _⟩
  · have eg : ∀ args w, (callFunc 111 args).run Tryz.prog w = .ok (.enter 111 args) w := enters_of Tryz.func111 (by kernel_rfl) rfl
    have := AnyQ.slices_SortFunc_total Tryz.sortSp 6 Tryz.isAgg38 Tryz.sizeOf38 spC spC_length spC_one cmpS ltS_swo 111 #[] g 0 cap l.toArray w eg (cmp_lays g 0 _ w) (holdsSp h') (Array.getElem?_eq_some_iff.1 hh).1 (by simp; omega) ltS_tot
    refine Calls.mono (show Calls Tryz.prog 110 #[.slice (some ⟨g, 0, none⟩) l.length cap, .func (.func 111) #[] #[]] w _ from this) ?_
    rintro e w' ⟨he, n, os, rfl⟩
    have hs2 : (l.toArray.toList.mergeSort fun x y => !(ltOf cmpS) y x) = sortS l := rfl
    rw [hs2]
    obtain ⟨h1, h2⟩ := sorted_own (n := n) (os := os) h' (sortS_length l)
    refine ⟨he, ?_, h2⟩
    exact h1
end Go.Proofs.YtimjplkehlgelaaGreat
