/- Seats. -/
import Derived.Test.YtfbndbmhnpleoaaTExp
import Derived.Test.YtfbndbmhnpleoaaTSts
import Derived.Test.YtfbndbmhnpleoaaShelfS
import Derived.Lib.SlKeysI
namespace Go.Proofs.Ytfbndbmhnpleoaa
set_option linter.unusedVariables false
set_option linter.unusedSimpArgs false
open Go.RowKit Go.Maps Go.Sort Go.Shelf

theorem keys_sorted {w : World} {b : Nat} {L : List St} {D : DataW Value} (h : TmIs w b L D) {ss : List Int} (hp : ss.Perm (intKeys D)) : ss.mergeSort (fun x y => decide (x ≤ y)) = L.map (·.s) := by
  obtain ⟨es, hD, hpw, _⟩ := h.map.entries intK
  obtain ⟨es', hD', hko⟩ := h.map.keysOf
  obtain rfl : es = es' := by rw [hD] at hD'; simpa using hD'
  have hr : (L.map (·.s)).Pairwise (fun x y => x < y) := List.pairwise_map.2 h.rd.rises
  have hnd : (L.map (·.s)).Nodup := hr.imp fun {x y} (h : x < y) e => by omega
  have hq : (L.map (·.s)).Perm (intKeys D) := by
    rw [hD]
    refine perm_intKeys hpw (fun p hp => ?_) hnd fun x => ?_
    · obtain ⟨v, hv⟩ := hko p hp
      obtain ⟨x, _, hx, _⟩ := Maps.keyOf_i64 Try.underlying3 hv
      exact ⟨x, hx⟩
    · rw [← hD, h.rd.keys]
      constructor
      · intro hx
        obtain ⟨y, hy, rfl⟩ := List.mem_map.1 hx
        rw [fndT_of h.rd.rises.ids hy]
        rfl
      · intro hx
        obtain ⟨y, hy⟩ := Option.isSome_iff_exists.1 hx
        obtain ⟨h1, h2⟩ := fndT_mem hy
        exact List.mem_map.2 ⟨y, h1, h2⟩
  have e := mergeSort_of_perm_i (hp.trans hq.symm)
  unfold leI at e
  rw [e]
  exact List.mergeSort_of_pairwise (hr.imp fun {x y} (h : x < y) => by simp; omega)

/-- slices.Sort's two contracts at this dump, at the fence that asks nothing. -/
theorem sortsA (m : Nat) : AnyZI.SortsIn Try.prog Try.sortedA_ren Fence.wide m :=
  ⟨fun blk off cap ss W hH hblk hsz => callsIn_wide.2 (AnyM.slices_Sort_int Try.sortA blk off cap ss W hH hblk hsz),
   fun p cap W => callsIn_wide.2 (AnyM.slices_Sort_int_none Try.sortA p cap W)⟩
theorem keys_any (mb : Option Nat) (W : World) : Calls Try.prog 28 #[.map mb] W fun e w' => e = .returned (.func (.func 41) #[] #[.pointer (some ⟨W.heap.size, 0, none⟩)]) ∧ w' = W.alloc (.cells #[.map mb] 54) :=
  (callsIn_wide (n := 5)).1 (AnyZI.keys_in Try.keysA Fence.wide 5 trivial rfl mb W)
/-- What 'slices.Sorted(maps.Keys(m))' gives. -/
def SortedPost (W : World) (l : List Int) (e : Ending) (w' : World) : Prop := ∃ v, e = .returned v ∧ w'.ownsRow W.heap.size 3 1 v l.length (l.map (Value.int .i64)) ∧ Below W.heap.size W w'
set_option maxHeartbeats 1000000 in
theorem sorted_any {w : World} {b : Nat} {L : List St} {D : DataW Value} (h : TmIs w b L D) (hL : L.length ≤ 1000000) : Calls Try.prog 27 #[.func (.func 41) #[] #[.pointer (some ⟨w.heap.size, 0, none⟩)]] (w.alloc (.cells #[.map (some b)] 54)) (SortedPost (w.alloc (.cells #[.map (some b)] 54)) (L.map (·.s))) := by
  have hbl := h.lt
  have hseq : SeqGives Fence.wide 2 Try.prog 41 #[.pointer (some ⟨w.heap.size, 0, none⟩)] encZ (fun ss => ss.Perm (intKeys D)) (Maps.size D) (w.alloc (.cells #[.map (some b)] 54)) :=
    AnyZI.keys_gives (ρ := Try.keysA_ren) { Try.keysA with } Fence.wide _ trivial rfl (by omega) w.heap.size b L.length D _ (by simp) (by simp) (by
      obtain ⟨es, clock, hb, Ft, hs, hD⟩ := h.map
      exact ⟨es, clock, (Below.heap_alloc _ _ b hbl).trans hb, Ft, hs, hD⟩)
  have cS := AnyZI.sorted_in Try.sortedA Fence.wide 5 trivial trivial trivial trivial rfl (by omega) (sortsA _) (enters_of Try.func40 (by kernel_rfl) rfl) 41 #[.pointer (some ⟨w.heap.size, 0, none⟩)] trivial (enters_of Try.func41 (by kernel_rfl) rfl) _ _ (by rw [h.rd.size]; simp [maxLen]; omega) (by rw [h.rd.size]; omega) _ hseq
  change CallsIn _ _ Try.prog 27 _ _ _ at cS
  refine ((callsIn_wide (n := 5)).1 cS).mono ?_
  rintro e w' ⟨v, ss, rfl, hS, hrow, hnil, hb⟩
  have hs := keys_sorted h hS
  refine ⟨v, rfl, ?_, hb⟩
  have hl : ss.length = (L.map (·.s)).length := by rw [← hs, List.length_mergeSort]
  rw [hs, hl] at hrow
  exact hrow
end Go.Proofs.Ytfbndbmhnpleoaa
