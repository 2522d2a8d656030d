/- The laws' own parts: light, grown; a forest that New did not make is asked. -/
import Derived.Test.YtbbdijnkgkabbaaFAw2
namespace Go.Proofs.Ytbbdijnkgkabbaa
set_option linter.unusedVariables false
set_option linter.unusedSimpArgs false
open Go.RowKit

/-- Names' bytes, each counted to 65537. -/
def namesN (l : List Sp) : Nat := (l.map fun x => min x.n.size 65537).sum
def lightL (l : List Sp) : Bool := decide (l.length ≤ 200) && decide (namesN (l.take 201) ≤ 65536)
theorem namesN_succ {l : List Sp} {k : Nat} {x : Sp} (h : l[k]? = some x) : namesN (l.take (k + 1)) = namesN (l.take k) + min x.n.size 65537 := by
  unfold namesN
  rw [List.take_add_one, h]
  simp
theorem namesN_le (l : List Sp) (k : Nat) : namesN (l.take k) ≤ 65537 * k := by
  induction k generalizing l with
  | zero => simp [namesN]
  | succ k ih =>
    cases l with
    | nil => simp [namesN]
    | cons x r =>
      have := ih r
      simp only [namesN, List.take_succ_cons, List.map_cons, List.sum_cons] at this ⊢
      omega

set_option maxRecDepth 200000 in
set_option maxHeartbeats 1000000 in
/-- light. -/
theorem light_any {w : World} {v : Value} {l : List Sp} (hv : Sps w v l) (hn9 : ∀ x ∈ l, x.n.size ≤ maxLen) : Calls Try.prog 6 #[v] w fun e w' => e = .returned (.bool (lightL l)) ∧ w' = w := by
  obtain ⟨p, n, c, rfl⟩ := hv.sl
  obtain ⟨hn, hnc, hcm⟩ := hv.len
  have HV := hide hv
  have HN := hide hn
  have HM := hide hn9
  have hnm : (n : Int) ≤ 9223372036854775807 := by unfold maxLen at hcm; omega
  clear hv hn hn9
  go_enter Try.func6, Try.ntmps6
  go_wp2_with fail
  go_loopw [3, 4] (fun z i wr => ∃ k : Nat, k ≤ min n 201 ∧ z = .int .i64 (namesN (l.take k) : Nat) ∧ i = .int .i64 k ∧ wr = w) (fun _ i _ => 201 - (intOf i).toNat)
  case atStart => exact ⟨0, by omega, by simp [namesN], rfl, rfl⟩
  case round =>
    obtain ⟨k, hk, rfl, rfl, rfl⟩ := hrel
    have hsn := namesN_le l k
    obtain ⟨sn, hsn2⟩ : ∃ sn, sn = namesN (l.take k) := ⟨_, rfl⟩
    rw [← hsn2] at hsn ⊢
    have HSN := hide hsn2
    have hsi : (sn : Int) ≤ 65537 * 201 := by omega
    clear hsn2 hsn
    by_cases hkl : k < n ∧ k ≤ 200
    · obtain ⟨h1, h2⟩ := hkl
      have h1i : (k : Int) < (n : Int) := by omega
      have h2i : (k : Int) ≤ 200 := by omega
      obtain ⟨g, o, rfl, hx⟩ := HV.out.at_ (by omega)
      obtain ⟨x, hxk⟩ : ∃ x, l[k]? = some x := ⟨_, List.getElem?_eq_getElem (by have := HN.out; omega)⟩
      have hat := (hx k x hxk)
      have c5 := hat.c5
      have hxn := HM.out x (List.mem_of_getElem? hxk)
      have hmi : (x.n.size : Int) ≤ 9223372036854775807 := by unfold maxLen at hxn; omega
      have HXK := hide hxk
      clear hx hxk hat hxn
      go_wp2
      all_goals
        go_roundw
        case rel =>
          refine ⟨k + 1, by omega, ?_, by go_num, by trivial⟩
          rw [namesN_succ HXK.out, ← HSN.out]
          first | rfl | (congr 1; omega) | (congr 1; simp; omega)
        case measure => simp [intOf]; omega
    · have hres : lightL l = (decide ((n : Int) ≤ 200) && decide ((sn : Int) ≤ 65536)) := by
        have hl : (l.take 201) = l.take k ∨ 200 < n := by
          by_cases h : 200 < n
          · exact .inr h
          · exact .inl (by rw [List.take_of_length_le (by have := HN.out; omega), List.take_of_length_le (by have := HN.out; omega)])
        unfold lightL
        rw [← HN.out]
        rcases hl with hl | hl
        · rw [hl, ← HSN.out]
          congr 1
          · rw [decide_eq_decide]; omega
          · rw [decide_eq_decide]; omega
        · rw [decide_eq_false (show ¬ n ≤ 200 by omega), decide_eq_false (show ¬ (n : Int) ≤ 200 by omega)]
          rfl
      have hkk : ¬ ((k : Int) < (n : Int)) ∨ ((k : Int) < (n : Int) ∧ ¬ (k : Int) ≤ 200) := by omega
      have HRES := hide hres
      clear hres hkl
      rcases hkk with h1 | ⟨h1, h2⟩
      all_goals
        go_wp2
        all_goals
          go_ret
          refine ⟨?_, rfl⟩
          rw [HRES.out]
          first | rfl | (simp; omega) | (simp_all; omega) | simp_all


theorem light_len {l : List Sp} (h : lightL l = true) : l.length ≤ 200 ∧ ∀ x ∈ l, x.n.size ≤ 1000000 := by
  unfold lightL at h
  rw [Bool.and_eq_true, decide_eq_true_eq, decide_eq_true_eq] at h
  obtain ⟨h1, h2⟩ := h
  refine ⟨h1, fun x hx => ?_⟩
  rw [List.take_of_length_le (by omega)] at h2
  have key : ∀ (m : List Sp), x ∈ m → min x.n.size 65537 ≤ namesN m := by
    intro m hm
    induction m with
    | nil => simp at hm
    | cons y r ih =>
      unfold namesN at ih ⊢
      rw [List.map_cons, List.sum_cons]
      rcases List.mem_cons.1 hm with rfl | hm
      · omega
      · have := ih hm
        omega
  have := key l hx
  omega

set_option maxRecDepth 200000 in
set_option maxHeartbeats 1000000 in
theorem add_no {w : World} {v u : Value} (h : NoF w v) : Calls Try.prog 9 #[v, u] w fun e w' => e = .returned (.tuple #[.agg #[.int .i64 0, .int .i64 0, .int .i64 0, .int .i64 0, .int .i64 0], .int .i64 6]) ∧ Below w.heap.size w w' := by
  have hB0 := (Below.refl w.heap.size w).alloc (Nat.le_refl _) (.cells #[.int .i64 0, .int .i64 0, .int .i64 0, .int .i64 0, .int .i64 0] 36)
  have hrow := heap_alloc_new w (.cells #[.int .i64 0, .int .i64 0, .int .i64 0, .int .i64 0, .int .i64 0] 36)
  have HM := hide (made_no (h.below hB0))
  have HB0 := hide hB0
  have HROW := hide hrow
  clear h hB0 hrow
  go_enter Try.func9, Try.ntmps9
  go_wp2_with fail
  refine HM.out.mono ?_
  rintro e1 w1 ⟨rfl, q, rfl⟩
  obtain ⟨W, hW⟩ : ∃ W, (w.alloc (.cells #[.int .i64 0, .int .i64 0, .int .i64 0, .int .i64 0, .int .i64 0] 36)).drewN q = W := ⟨_, rfl⟩
  have hbw9 : Below w.heap.size w W := by rw [← hW]; exact HB0.out.trans (bdrew _ q)
  have hrw : W.heap[w.heap.size]? = some (.cells #[.int .i64 0, .int .i64 0, .int .i64 0, .int .i64 0, .int .i64 0] 36) := by rw [← hW]; exact HROW.out
  rw [hW]
  have cb0 := cell_of_row W w.heap.size 0 _ 36 (0, 0) hrw
  have cb1 := cell_of_row W w.heap.size 1 _ 36 (0, 0) hrw
  have cb2 := cell_of_row W w.heap.size 2 _ 36 (0, 0) hrw
  have cb3 := cell_of_row W w.heap.size 3 _ 36 (0, 0) hrw
  have cb4 := cell_of_row W w.heap.size 4 _ 36 (0, 0) hrw
  have cf0 := frozen_of_row W w.heap.size 0 _ 36 hrw
  have cf1 := frozen_of_row W w.heap.size 1 _ 36 hrw
  have cf2 := frozen_of_row W w.heap.size 2 _ 36 hrw
  have cf3 := frozen_of_row W w.heap.size 3 _ 36 hrw
  have cf4 := frozen_of_row W w.heap.size 4 _ 36 hrw
  have HRW := hide hrw
  have HBW9 := hide hbw9
  clear hrw hbw9 hW
  go_wp2
  refine bodyPost_ret (v := .tuple #[cnV cn0, .int .i64 6]) (by
    have q5 := five_set HRW.out (.int .i64 0) (.int .i64 0) (.int .i64 0) (.int .i64 0) (.int .i64 0)
    generalize (((((W.setCell ⟨w.heap.size, 0, none⟩ (.int .i64 0)).setCell ⟨w.heap.size, 1, none⟩ (.int .i64 0)).setCell ⟨w.heap.size, 2, none⟩ (.int .i64 0)).setCell ⟨w.heap.size, 3, none⟩ (.int .i64 0)).setCell ⟨w.heap.size, 4, none⟩ (.int .i64 0)) = W9 at q5 ⊢
    have m0 := cell_of_row W9 w.heap.size 0 _ 36 (0, 0) q5
    have m1 := cell_of_row W9 w.heap.size 1 _ 36 (0, 0) q5
    have m2 := cell_of_row W9 w.heap.size 2 _ 36 (0, 0) q5
    have m3 := cell_of_row W9 w.heap.size 3 _ 36 (0, 0) q5
    have m4 := cell_of_row W9 w.heap.size 4 _ 36 (0, 0) q5
    have hz9 : w.heap.size < W9.heap.size := by have := (Array.getElem?_eq_some_iff.1 q5).1; exact this
    clear q5
    unfold cnV
    simp at m0 m1 m2 m3 m4
    simp [results, Try.results9, go_sem, m0, m1, m2, m3, m4, hz9, cn0]) rfl ⟨rfl, ?_⟩
  exact bset (bset (bset (bset (bset HBW9.out (Nat.le_refl w.heap.size)) (Nat.le_refl _)) (Nat.le_refl _)) (Nat.le_refl _)) (Nat.le_refl _)

set_option maxRecDepth 200000 in
set_option maxHeartbeats 1000000 in
theorem find_no {w : World} {v : Value} (k : Int) (h : NoF w v) : Calls Try.prog 12 #[v, .int .i64 k] w fun e w' => e = .returned (.tuple #[.agg #[.int .i64 0, .int .i64 0, .int .i64 0, .int .i64 0, .int .i64 0, .string ⟨#[]⟩], .bool false]) ∧ Below w.heap.size w w' := by
  have hB0 := (Below.refl w.heap.size w).alloc (Nat.le_refl _) (.cells #[.int .i64 0, .int .i64 0, .int .i64 0, .int .i64 0, .int .i64 0, .string ⟨#[]⟩] 33)
  have hrow := heap_alloc_new w (.cells #[.int .i64 0, .int .i64 0, .int .i64 0, .int .i64 0, .int .i64 0, .string ⟨#[]⟩] 33)
  have HM := hide (made_no (h.below hB0))
  have HB0 := hide hB0
  have HROW := hide hrow
  clear h hB0 hrow
  go_enter Try.func12, Try.ntmps12
  go_wp2_with fail
  refine HM.out.mono ?_
  rintro e1 w1 ⟨rfl, q, rfl⟩
  obtain ⟨W, hW⟩ : ∃ W, (w.alloc (.cells #[.int .i64 0, .int .i64 0, .int .i64 0, .int .i64 0, .int .i64 0, .string ⟨#[]⟩] 33)).drewN q = W := ⟨_, rfl⟩
  have hb : Below w.heap.size w W := by rw [← hW]; exact HB0.out.trans (bdrew _ q)
  have hrow : W.heap[w.heap.size]? = some (.cells #[.int .i64 0, .int .i64 0, .int .i64 0, .int .i64 0, .int .i64 0, .string ⟨#[]⟩] 33) := by rw [← hW]; exact HROW.out
  rw [hW]
  have f0 := frozen_of_row W w.heap.size 0 _ 33 hrow
  have f1 := frozen_of_row W w.heap.size 1 _ 33 hrow
  have f2 := frozen_of_row W w.heap.size 2 _ 33 hrow
  have f3 := frozen_of_row W w.heap.size 3 _ 33 hrow
  have f4 := frozen_of_row W w.heap.size 4 _ 33 hrow
  have f5 := frozen_of_row W w.heap.size 5 _ 33 hrow
  have b0 := cell_of_row W w.heap.size 0 _ 33 (0, 0) hrow
  have b1 := cell_of_row W w.heap.size 1 _ 33 (0, 0) hrow
  have b2 := cell_of_row W w.heap.size 2 _ 33 (0, 0) hrow
  have b3 := cell_of_row W w.heap.size 3 _ 33 (0, 0) hrow
  have b4 := cell_of_row W w.heap.size 4 _ 33 (0, 0) hrow
  have b5 := cell_of_row W w.heap.size 5 _ 33 (0, 0) hrow
  have HR := hide hrow
  have HB := hide hb
  clear hrow hb hW
  go_wp2
  have h6 := six_set HR.out ⟨0, 0, 0, 0, 0, ⟨#[]⟩⟩
  dsimp only at h6
  refine bodyPost_ret (v := .tuple #[.agg #[.int .i64 0, .int .i64 0, .int .i64 0, .int .i64 0, .int .i64 0, .string ⟨#[]⟩], .bool false]) (by
    generalize ((((((W.setCell ⟨w.heap.size, 0, none⟩ (.int .i64 0)).setCell ⟨w.heap.size, 1, none⟩ (.int .i64 0)).setCell ⟨w.heap.size, 2, none⟩ (.int .i64 0)).setCell ⟨w.heap.size, 3, none⟩ (.int .i64 0)).setCell ⟨w.heap.size, 4, none⟩ (.int .i64 0)).setCell ⟨w.heap.size, 5, none⟩ (.string ⟨#[]⟩)) = W9 at h6 ⊢
    obtain ⟨m0, m1, m2, m3, m4, m5⟩ := h6.z
    have hz9 : w.heap.size < W9.heap.size := h6.lt
    clear h6
    simp [results, Try.results12, go_sem, m0, m1, m2, m3, m4, m5, hz9]) rfl ⟨rfl, ?_⟩
  exact bset (bset (bset (bset (bset (bset HB.out (Nat.le_refl w.heap.size)) (Nat.le_refl _)) (Nat.le_refl _)) (Nat.le_refl _)) (Nat.le_refl _)) (Nat.le_refl _)

/-- A forest of trace 1 that was made since. -/
def GrownPost (w : World) (L : List Sp) (e : Ending) (w' : World) : Prop := ∃ g b, e = .returned (.pointer (some ⟨g, 0, none⟩)) ∧ FoIs w' g b 1 L ∧ w.heap.size ≤ g ∧ w.heap.size ≤ b ∧ Below w.heap.size w w'

end Go.Proofs.Ytbbdijnkgkabbaa
