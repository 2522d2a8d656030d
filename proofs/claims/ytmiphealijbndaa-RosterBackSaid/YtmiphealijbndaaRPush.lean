/- Numbers behind others: append. The library's calls over numbers. -/
import Derived.Test.YtmiphealijbndaaRCheck
import Derived.Sort.OwnSortedInts
namespace Go.Proofs.Ytmiphealijbndaa
set_option linter.unusedVariables false
set_option linter.unusedSimpArgs false
open Go.RowKit

theorem Try.infoN : (Try.prog.info? 3).map (fun i => (i.zero, i.size, i.bytes)) = some (some (.int .i64 0), 1, 8) := by kernel_rfl
theorem ncell_one (l : List Int) : ∀ u ∈ l.map (Value.int .i64), u.oneCell' = true := by
  intro u hu
  obtain ⟨x, _, rfl⟩ := List.mem_map.1 hu
  rfl

theorem run_pushN {B : Nat} {w : World} {v : Value} {l : List Int} (h : OwnN B w v l) (x : Int) (hx : fits x) (hB : B ≤ w.heap.size) (hs : l.length ≤ 1000000) :
    ∃ v' w', (Builtin.append_ #[22, 22] 22 #[v, .slice (some ⟨w.heap.size, 0, none⟩) 1 1]).run Try.prog (w.alloc (.cells #[.int .i64 x] 3)) = .ok v' w' ∧ OwnN B w' v' (l ++ [x]) ∧ Below B w w' ∧ w.grownBy w' v.ownBlock := by
  obtain ⟨i0, hi0, hz0, hz1, hz2⟩ := info_parts Try.infoN
  have ho' := World.ownsRow.alloc h.1 (.cells #[.int .i64 x] 3)
  obtain ⟨v', w', hr, h1, h2, _, h4⟩ := run_append_own_at (P := Try.prog) (w.alloc (.cells #[.int .i64 x] 3)) B 22 22 3 i0 _ 1 8 Try.underlying22 hi0 hz0 hz1 hz2 rfl (by decide) v l.length (l.map (Value.int .i64)) ho' ⟨w.heap.size, 0, none⟩ 1 1 [.int .i64 x] rfl
    (fun j u hj => by
      rw [add_lit0, Nat.zero_add, cell_of_row _ w.heap.size j _ 3 (0, 0) (heap_alloc_new w _)]
      simpa using hj)
    (ncell_one [x]) (by simp only [maxLen]; omega) (by omega) (by simp; omega)
  have hb0 : Below B w (w.alloc (.cells #[.int .i64 x] 3)) := (Below.refl _ _).alloc hB _
  refine ⟨v', w', hr, ⟨?_, ?_⟩, hb0.grown h2 (by simp; omega) fun k hk => (World.ownsRow.lt h.1 k hk).1, ?_⟩
  · rw [List.map_append, List.length_append]
    exact h1
  · intro y hy
    rcases List.mem_append.1 hy with hy | hy
    · exact h.2 y hy
    · rw [List.mem_singleton.1 hy]
      exact hx
  · refine ⟨h2.os, h2.tape, h2.output, ?_, fun k hk hne => ?_⟩
    · have := h2.size
      simp at this
      omega
    · rw [h2.block k (by simp; omega) hne]
      exact heap_alloc_old _ _ hk
theorem wpList_pushN {w : World} {ops : Array Oper} {rest : List Oper} {o : Oper} {a : Act} {Q : Exit → Act → World → Prop} (hgd : o.guard = none) (s t : Operand)
    (ho : o.op = .call { callee := .builtin .append, args := #[s, t], argTypes := #[22, 22] }) (hty : o.type = 22) {B : Nat} {v : Value} {l : List Int} (x : Int) (hx : fits x) {H : Nat}
    (hs : a.eval s = v) (ht : a.eval t = .slice (some ⟨H, 0, none⟩) 1 1) (hH : H = w.heap.size) (h : OwnN B w v l) (hB : B ≤ w.heap.size) (hn : l.length ≤ 1000000)
    (hK : ∀ v' w', OwnN B w' v' (l ++ [x]) → Below B w w' → w.grownBy w' v.ownBlock → wpList Try.prog ops Q rest (a.put o.dst v') w') : wpList Try.prog ops Q (o :: rest) a (w.alloc (.cells #[.int .i64 x] 3)) := by
  subst hH
  obtain ⟨v', w', hr, h1, h2, h3⟩ := run_pushN h x hx hB hn
  exact Lib.wpList_append_run_sl _ hgd s t 22 ho v _ hs ht (by rw [hty]; exact hr) (hK v' w' h1 h2 h3)

theorem run_pushN_none {w : World} {v : Value} {l : List Int} {B : Nat} (hv : OwnN B w v l) (p : Option Addr) (c : Nat) : (Builtin.append_ #[22, 22] 22 #[v, .slice p 0 c]).run Try.prog w = .ok v w := by
  obtain ⟨i0, hi0, hz0, hz1, hz2⟩ := info_parts Try.infoN
  obtain ⟨⟨_, ⟨rfl, _⟩ | ⟨g, cap, cur, rfl, _, _, hl, _⟩⟩, _⟩ := hv
  · cases p <;> simp [Builtin.append_, run_underlying Try.underlying22, Go.sizeOf, typeInfo, hi0, Builtin.lenOf, Builtin.firstCells, loadCells, loadCellsFrom]
  · cases p <;> simp [Builtin.append_, run_underlying Try.underlying22, Go.sizeOf, typeInfo, hi0, Builtin.lenOf, Builtin.firstCells, hl, storeCells, loadCells, loadCellsFrom]
theorem run_pushesN {B : Nat} {w : World} {v u : Value} {l m : List Int} (h : OwnN B w v l) (hu : Ns w u m) (hB : B ≤ w.heap.size) (hs : (l.length + m.length) * 8 ≤ 140737488355328) :
    ∃ v' w', (Builtin.append_ #[22, 22] 22 #[v, u]).run Try.prog w = .ok v' w' ∧ OwnN B w' v' (l ++ m) ∧ Below B w w' ∧ w.grownBy w' v.ownBlock := by
  obtain ⟨i0, hi0, hz0, hz1, hz2⟩ := info_parts Try.infoN
  obtain ⟨p, n, c, rfl⟩ := hu.sl
  have hn := hu.len.1
  by_cases h0 : n = 0
  · subst h0
    obtain rfl : m = [] := List.eq_nil_of_length_eq_zero hn.symm
    exact ⟨v, w, run_pushN_none h p c, by rw [List.append_nil]; exact h, Below.refl _ _, World.grownBy.refl _ _⟩
  · obtain ⟨g, o, rfl, hx⟩ := hu.at_ (by omega)
    obtain ⟨v', w', hr, h1, h2, _, h4⟩ := run_append_own_at (P := Try.prog) w B 22 22 3 i0 _ 1 8 Try.underlying22 hi0 hz0 hz1 hz2 rfl (by decide) v l.length (l.map (Value.int .i64)) h.1 ⟨g, o, none⟩ n c (m.map (Value.int .i64)) (by rw [List.length_map, hn]; omega)
      (fun j u hj => by
        rw [List.getElem?_map, Option.map_eq_some_iff] at hj
        obtain ⟨x, hxj, rfl⟩ := hj
        rw [add_lit0]
        exact hx j x hxj)
      (ncell_one m) (by simp only [maxLen]; omega) (by omega) hB
    refine ⟨v', w', hr, ⟨?_, ?_⟩, (Below.refl _ _).grown h2 hB fun k hk => (World.ownsRow.lt h.1 k hk).1, h2⟩
    · rw [List.map_append, List.length_append, ← hn]
      exact h1
    · intro y hy
      rcases List.mem_append.1 hy with hy | hy
      · exact h.2 y hy
      · exact hu.fits y hy
theorem wpList_pushesN {w : World} {ops : Array Oper} {rest : List Oper} {o : Oper} {a : Act} {Q : Exit → Act → World → Prop} (hgd : o.guard = none) (s t : Operand)
    (ho : o.op = .call { callee := .builtin .append, args := #[s, t], argTypes := #[22, 22] }) (hty : o.type = 22) {B : Nat} {v u : Value} {l m : List Int}
    (hs : a.eval s = v) (ht : a.eval t = u) (h : OwnN B w v l) (hu : Ns w u m) (hB : B ≤ w.heap.size) (hn : (l.length + m.length) * 8 ≤ 140737488355328)
    (hK : ∀ v' w', OwnN B w' v' (l ++ m) → Below B w w' → w.grownBy w' v.ownBlock → wpList Try.prog ops Q rest (a.put o.dst v') w') : wpList Try.prog ops Q (o :: rest) a w := by
  obtain ⟨v', w', hr, h1, h2, h3⟩ := run_pushesN h hu hB hn
  exact Lib.wpList_append_run_sl _ hgd s t 22 ho v _ hs ht (by rw [hty]; exact hr) (hK v' w' h1 h2 h3)

theorem Ns.getD {w : World} {g o n c : Nat} {l : List Int} (h : Ns w (.slice (some ⟨g, o, none⟩) n c) l) (j : Nat) (hj : j < l.length) : w.cell? ⟨g, o + j, none⟩ = some (.int .i64 (l.getD j 0)) := by
  obtain ⟨g', o', e, hc⟩ := h.at_ (by rw [h.len.1]; omega)
  injection e with e
  injection e with e1 e2
  subst e1 e2
  rw [hc j _ (List.getElem?_eq_getElem hj), List.getD_eq_getElem?_getD, List.getElem?_eq_getElem hj]
  rfl

set_option maxHeartbeats 1000000 in
theorem votes_any {w : World} {v : Value} {l : List Int} {n : Int} (h : Ns w v l) : Calls Try.prog 16 #[v, .int .i64 n] w (Vts w l n) := by
  obtain ⟨p, m, c, rfl⟩ := h.sl
  have hn := h.len
  have hnl := hn.1
  subst hnl
  have hbig : l.length ≤ maxLen := Nat.le_trans hn.2.1 hn.2.2
  unfold maxLen at hbig
  have HC : Hid (Calls Try.prog 31 #[.slice p l.length c, .int .i64 n] w fun e w' => e = .returned (.bool (hasN l n)) ∧ w' = w) := by
    by_cases h0 : 0 < l.length
    · obtain ⟨g, o, rfl, hc⟩ := h.at_ h0
      have := Try.slices_Contains_int g o l.length c l n w (Nat.le_refl _) (by omega) fun j hj => h.getD j hj
      rwa [List.take_length] at this
    · obtain rfl : l = [] := List.eq_nil_of_length_eq_zero (by omega)
      exact Try.slices_Contains_int_empty p c n w
  clear h hn hbig
  go_enter Try.func16, Try.ntmps16
  go_wp2_with fail
  refine HC.out.mono ?_
  rintro e w' ⟨rfl, hw⟩
  subst w'
  go_wp2
  go_ret
  exact ⟨rfl, rfl⟩

/-- slices.Equal over numbers. -/
theorem equalN_any {w : World} {v u : Value} {l m : List Int} (h : Ns w v l) (hu : Ns w u m) : Calls Try.prog 18 #[v, u] w fun e w' => e = .returned (.bool (l == m)) ∧ ∃ q, w' = w.drewN q := by
  obtain ⟨p, n, c, rfl⟩ := h.sl
  obtain ⟨p2, n2, c2, rfl⟩ := hu.sl
  have hn := h.len
  have hn2 := hu.len
  have hnl := hn.1
  have hnl2 := hn2.1
  subst hnl hnl2
  have hbig : l.length ≤ maxLen := Nat.le_trans hn.2.1 hn.2.2
  have hbig2 : m.length ≤ maxLen := Nat.le_trans hn2.2.1 hn2.2.2
  unfold maxLen at hbig hbig2
  by_cases h0 : 0 < l.length
  · by_cases h1 : 0 < m.length
    · obtain ⟨g, o, rfl, hc⟩ := h.at_ h0
      obtain ⟨g2, o2, rfl, hc2⟩ := hu.at_ h1
      have := Try.slices_Equal_int g o l.length c g2 o2 m.length c2 l m w (Nat.le_refl _) (Nat.le_refl _) (by omega) (by omega) (fun j hj => h.getD j hj) (fun j hj => hu.getD j hj)
      rwa [List.take_length, List.take_length] at this
    · obtain rfl : m = [] := List.eq_nil_of_length_eq_zero (by omega)
      refine (Try.slices_Equal_int_lens p p2 l.length c 0 c2 w (by omega)).mono fun e w' ⟨he, hw⟩ => ⟨?_, 0, hw⟩
      rw [he]
      cases l with
      | nil => simp at h0
      | cons x r => rfl
  · obtain rfl : l = [] := List.eq_nil_of_length_eq_zero (by omega)
    refine (Try.slices_Equal_int_empty p p2 c m.length c2 w (by omega)).mono fun e w' ⟨he, hw⟩ => ⟨?_, 0, hw⟩
    rw [he]
    cases m with
    | nil => rfl
    | cons x r => rfl

/-- slices.Clone over numbers. -/
theorem cloneN_any {w : World} {v : Value} {l : List Int} (h : Ns w v l) (hs : l.length * 8 ≤ 140737488355328) : Calls Try.prog 13 #[v] w fun e w' => ∃ v', e = .returned v' ∧ OwnN w.heap.size w' v' l ∧ Below w.heap.size w w' := by
  obtain ⟨p, n, c, rfl⟩ := h.sl
  have hn := h.len
  have hnl := hn.1
  subst hnl
  by_cases h0 : 0 < l.length
  · obtain ⟨g, o, rfl, hc⟩ := h.at_ h0
    have := Try.slices_Clone_int g o l.length c l w (Nat.le_refl _) hs fun j hj => h.getD j hj
    rw [List.take_length] at this
    exact this.mono fun e w' ⟨v', he, ho, _, hb⟩ => ⟨v', he, ⟨ho, h.fits⟩, hb⟩
  · obtain rfl : l = [] := List.eq_nil_of_length_eq_zero (by omega)
    cases p with
    | none => exact (Try.slices_Clone_int_nil 0 c w).mono fun e w' ⟨he, hw⟩ => ⟨_, he, by rw [hw]; exact OwnN.nil _ _, by rw [hw]; exact Below.refl _ _⟩
    | some a => exact (Try.slices_Clone_int_zero a c w).mono fun e w' ⟨v', he, ho, _, hb⟩ => ⟨v', he, ⟨ho, h.fits⟩, hb⟩

/-- In order. -/
def sortN (l : List Int) : List Int := l.mergeSort fun x y => decide (x ≤ y)
theorem sortN_perm (l : List Int) : (sortN l).Perm l := List.mergeSort_perm _ _
theorem sortN_rise (l : List Int) : (sortN l).Pairwise (· ≤ ·) := by
  have := List.pairwise_mergeSort (le := fun x y : Int => decide (x ≤ y)) (by simp; omega) (by simp; omega) l
  unfold sortN
  simpa using this
theorem sortN_length (l : List Int) : (sortN l).length = l.length := (sortN_perm l).length_eq

/-- slices.Sort over numbers that the call made. -/
theorem sortN_any {B : Nat} {w : World} {v : Value} {l : List Int} (h : OwnN B w v l) (hs : l.length < 4611686018427387904) : Calls Try.prog 33 #[v] w fun e w' => e = .returned (.tuple #[]) ∧ OwnN B w' v (sortN l) ∧ w.grownBy w' v.ownBlock := by
  obtain ⟨⟨hl, ⟨rfl, h0⟩ | ⟨g, cap, cur, rfl, hB, hh, hc, hm, hs2, ht⟩⟩, hf⟩ := h
  · obtain rfl : l = [] := List.eq_nil_of_length_eq_zero h0
    exact (Try.slices_Sort_int_none none 0 w).mono fun e w' ⟨he, hw⟩ => ⟨he, by rw [hw]; simpa [sortN] using OwnN.nil B w, by rw [hw]; exact World.grownBy.refl _ _⟩
  · have hg : g < w.heap.size := (Array.getElem?_eq_some_iff.1 hh).1
    refine (Try.slices_Sort_int g 0 cap l w (holds_of_blockI hh (by simpa using ht)) hg hs).mono fun e w' ⟨he, n, os, hw⟩ => ⟨he, ⟨?_, fun x hx => hf x ((sortN_perm l).mem_iff.1 hx)⟩, ?_⟩
    · rw [hw, sortN_length]
      exact ownsRow_sortedI (sortN_length l) hB hh hc hm hs2
    · rw [hw]
      exact grownBy_sortedI _
end Go.Proofs.Ytmiphealijbndaa
