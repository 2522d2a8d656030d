/- The laws' own part: light. -/
import Derived.Test.YtfedkjaollioaaaGreatSoAw
namespace Go.Proofs.YtfedkjaollioaaaGreat
set_option linter.unusedVariables false
set_option linter.unusedSimpArgs false
open Go.RowKit

/-- Names' bytes, each counted to 65537. -/
def namesN (l : List Sp) : Nat := (l.map fun x => min x.n.size 65537).sum
def lightL (l : List Sp) : Bool := decide (l.length ≤ 400) && decide (namesN (l.take 401) ≤ 65536)
theorem namesN_succ {l : List Sp} {k : Nat} {x : Sp} (h : l[k]? = some x) : namesN (l.take (k + 1)) = namesN (l.take k) + min x.n.size 65537 := by
  unfold namesN
  rw [List.take_add_one, h]
  simp
theorem namesN_le (l : List Sp) (k : Nat) : namesN (l.take k) ≤ 65537 * k := by
  induction k generalizing l with
  | zero => simp [namesN]
  | succ k ih =>
    cases l with
    | nil => simp [namesN]
    | cons x r =>
      have := ih r
      simp only [namesN, List.take_succ_cons, List.map_cons, List.sum_cons] at this ⊢
      omega

set_option maxRecDepth 200000 in
set_option maxHeartbeats 1000000 in
/-- light. -/
theorem slight_any {w : World} {v : Value} {l : List Sp} (hv : Sps w v l) (hn9 : ∀ x ∈ l, x.n.size ≤ maxLen) : Calls Tryz.prog 20 #[v] w fun e w' => e = .returned (.bool (lightL l)) ∧ w' = w := by
  obtain ⟨p, n, c, rfl⟩ := hv.sl
  obtain ⟨hn, hnc, hcm⟩ := hv.len
  have HV := hide hv
  have HN := hide hn
  have HM := hide hn9
  have hnm : (n : Int) ≤ 9223372036854775807 := by unfold maxLen at hcm; omega
  clear hv hn hn9
  go_enter Tryz.func20, Tryz.ntmps20
  go_wp2_with fail
  go_loopw [3, 4] (fun z i wr => ∃ k : Nat, k ≤ min n 401 ∧ z = .int .i64 (namesN (l.take k) : Nat) ∧ i = .int .i64 k ∧ wr = w) (fun _ i _ => 401 - (intOf i).toNat)
  case atStart => exact ⟨0, by omega, by simp [namesN], rfl, rfl⟩
  case round =>
    obtain ⟨k, hk, rfl, rfl, rfl⟩ := hrel
    have hsn := namesN_le l k
    obtain ⟨sn, hsn2⟩ : ∃ sn, sn = namesN (l.take k) := ⟨_, rfl⟩
    rw [← hsn2] at hsn ⊢
    have HSN := hide hsn2
    have hsi : (sn : Int) ≤ 65537 * 401 := by omega
    clear hsn2 hsn
    by_cases hkl : k < n ∧ k ≤ 400
    · obtain ⟨h1, h2⟩ := hkl
      have h1i : (k : Int) < (n : Int) := by omega
      have h2i : (k : Int) ≤ 400 := by omega
      obtain ⟨g, o, rfl, hx⟩ := HV.out.at_ (by omega)
      obtain ⟨x, hxk⟩ : ∃ x, l[k]? = some x := ⟨_, List.getElem?_eq_getElem (by have := HN.out; omega)⟩
      have hat := (hx k x hxk)
      have c5 := hat.c5
      have hxn := HM.out x (List.mem_of_getElem? hxk)
      have hmi : (x.n.size : Int) ≤ 9223372036854775807 := by unfold maxLen at hxn; omega
      have HXK := hide hxk
      clear hx hxk hat hxn
      go_wp2
      all_goals
        go_roundw
        case rel =>
          refine ⟨k + 1, by omega, ?_, by go_num, by trivial⟩
          rw [namesN_succ HXK.out, ← HSN.out]
          first | rfl | (congr 1; omega) | (congr 1; simp; omega)
        case measure => simp [intOf]; omega
    · have hres : lightL l = (decide ((n : Int) ≤ 400) && decide ((sn : Int) ≤ 65536)) := by
        have hl : (l.take 401) = l.take k ∨ 400 < n := by
          by_cases h : 400 < n
          · exact .inr h
          · exact .inl (by rw [List.take_of_length_le (by have := HN.out; omega), List.take_of_length_le (by have := HN.out; omega)])
        unfold lightL
        rw [← HN.out]
        rcases hl with hl | hl
        · rw [hl, ← HSN.out]
          congr 1
          · rw [decide_eq_decide]; omega
          · rw [decide_eq_decide]; omega
        · rw [decide_eq_false (show ¬ n ≤ 400 by omega), decide_eq_false (show ¬ (n : Int) ≤ 400 by omega)]
          rfl
      have hkk : ¬ ((k : Int) < (n : Int)) ∨ ((k : Int) < (n : Int) ∧ ¬ (k : Int) ≤ 400) := by omega
      have HRES := hide hres
      clear hres hkl
      rcases hkk with h1 | ⟨h1, h2⟩
      all_goals
        go_wp2
        all_goals
          go_ret
          refine ⟨?_, rfl⟩
          rw [HRES.out]
          first | rfl | (simp; omega) | (simp_all; omega) | simp_all


theorem slight_len {l : List Sp} (h : lightL l = true) : l.length ≤ 400 ∧ ∀ x ∈ l, x.n.size ≤ 1000000 := by
  unfold lightL at h
  rw [Bool.and_eq_true, decide_eq_true_eq, decide_eq_true_eq] at h
  obtain ⟨h1, h2⟩ := h
  refine ⟨h1, fun x hx => ?_⟩
  rw [List.take_of_length_le (by omega)] at h2
  have key : ∀ (m : List Sp), x ∈ m → min x.n.size 65537 ≤ namesN m := by
    intro m hm
    induction m with
    | nil => simp at hm
    | cons y r ih =>
      unfold namesN at ih ⊢
      rw [List.map_cons, List.sum_cons]
      rcases List.mem_cons.1 hm with rfl | hm
      · omega
      · have := ih hm
        omega
  have := key l hx
  omega

end Go.Proofs.YtfedkjaollioaaaGreat
