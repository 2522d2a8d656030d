/- The laws' own parts: light, grown; a forest that New did not make is asked. -/
import Derived.Test.YtokmmmpijcbknaaFAw2
namespace Go.Proofs.Ytokmmmpijcbknaa
set_option linter.unusedVariables false
set_option linter.unusedSimpArgs false
open Go.RowKit

/-- Names' bytes, each counted to 65537. -/
def namesN (l : List Sp) : Nat := (l.map fun x => min x.n.size 65537).sum
def lightL (l : List Sp) : Bool := decide (l.length ≤ 200) && decide (namesN (l.take 201) ≤ 65536)
theorem namesN_succ {l : List Sp} {k : Nat} {x : Sp} (h : l[k]? = some x) : namesN (l.take (k + 1)) = namesN (l.take k) + min x.n.size 65537 := by
  unfold namesN
  rw [List.take_add_one, h]
  simp
theorem namesN_le (l : List Sp) (k : Nat) : namesN (l.take k) ≤ 65537 * k := by
  induction k generalizing l with
  | zero => simp [namesN]
  | succ k ih =>
    cases l with
    | nil => simp [namesN]
    | cons x r =>
      have := ih r
      simp only [namesN, List.take_succ_cons, List.map_cons, List.sum_cons] at this ⊢
      omega

set_option maxRecDepth 200000 in
set_option maxHeartbeats 1000000 in
/-- light. -/
theorem light_any {w : World} {v : Value} {l : List Sp} (hv : Sps w v l) (hn9 : ∀ x ∈ l, x.n.size ≤ maxLen) : Calls Try.prog 14 #[v] w fun e w' => e = .returned (.bool (lightL l)) ∧ w' = w := by
  obtain ⟨p, n, c, rfl⟩ := hv.sl
  obtain ⟨hn, hnc, hcm⟩ := hv.len
  have HV := hide hv
  have HN := hide hn
  have HM := hide hn9
  have hnm : (n : Int) ≤ 9223372036854775807 := by unfold maxLen at hcm; omega
  clear hv hn hn9
  go_enter Try.func14, Try.ntmps14
  go_wp2_with fail
  go_loopw [3, 4] (fun z i wr => ∃ k : Nat, k ≤ min n 201 ∧ z = .int .i64 (namesN (l.take k) : Nat) ∧ i = .int .i64 k ∧ wr = w) (fun _ i _ => 201 - (intOf i).toNat)
  case atStart => exact ⟨0, by omega, by simp [namesN], rfl, rfl⟩
  case round =>
    obtain ⟨k, hk, rfl, rfl, rfl⟩ := hrel
    have hsn := namesN_le l k
    obtain ⟨sn, hsn2⟩ : ∃ sn, sn = namesN (l.take k) := ⟨_, rfl⟩
    rw [← hsn2] at hsn ⊢
    have HSN := hide hsn2
    have hsi : (sn : Int) ≤ 65537 * 201 := by omega
    clear hsn2 hsn
    by_cases hkl : k < n ∧ k ≤ 200
    · obtain ⟨h1, h2⟩ := hkl
      have h1i : (k : Int) < (n : Int) := by omega
      have h2i : (k : Int) ≤ 200 := by omega
      obtain ⟨g, o, rfl, hx⟩ := HV.out.at_ (by omega)
      obtain ⟨x, hxk⟩ : ∃ x, l[k]? = some x := ⟨_, List.getElem?_eq_getElem (by have := HN.out; omega)⟩
      have hat := (hx k x hxk)
      have c5 := hat.c5
      have hxn := HM.out x (List.mem_of_getElem? hxk)
      have hmi : (x.n.size : Int) ≤ 9223372036854775807 := by unfold maxLen at hxn; omega
      have HXK := hide hxk
      clear hx hxk hat hxn
      go_wp2
      all_goals
        go_roundw
        case rel =>
          refine ⟨k + 1, by omega, ?_, by go_num, by trivial⟩
          rw [namesN_succ HXK.out, ← HSN.out]
          first | rfl | (congr 1; omega) | (congr 1; simp; omega)
        case measure => simp [intOf]; omega
    · have hres : lightL l = (decide ((n : Int) ≤ 200) && decide ((sn : Int) ≤ 65536)) := by
        have hl : (l.take 201) = l.take k ∨ 200 < n := by
          by_cases h : 200 < n
          · exact .inr h
          · exact .inl (by rw [List.take_of_length_le (by have := HN.out; omega), List.take_of_length_le (by have := HN.out; omega)])
        unfold lightL
        rw [← HN.out]
        rcases hl with hl | hl
        · rw [hl, ← HSN.out]
          congr 1
          · rw [decide_eq_decide]; omega
          · rw [decide_eq_decide]; omega
        · rw [decide_eq_false (show ¬ n ≤ 200 by omega), decide_eq_false (show ¬ (n : Int) ≤ 200 by omega)]
          rfl
      have hkk : ¬ ((k : Int) < (n : Int)) ∨ ((k : Int) < (n : Int) ∧ ¬ (k : Int) ≤ 200) := by omega
      have HRES := hide hres
      clear hres hkl
      rcases hkk with h1 | ⟨h1, h2⟩
      all_goals
        go_wp2
        all_goals
          go_ret
          refine ⟨?_, rfl⟩
          rw [HRES.out]
          first | rfl | (simp; omega) | (simp_all; omega) | simp_all


theorem light_len {l : List Sp} (h : lightL l = true) : l.length ≤ 200 ∧ ∀ x ∈ l, x.n.size ≤ 1000000 := by
  unfold lightL at h
  rw [Bool.and_eq_true, decide_eq_true_eq, decide_eq_true_eq] at h
  obtain ⟨h1, h2⟩ := h
  refine ⟨h1, fun x hx => ?_⟩
  rw [List.take_of_length_le (by omega)] at h2
  have key : ∀ (m : List Sp), x ∈ m → min x.n.size 65537 ≤ namesN m := by
    intro m hm
    induction m with
    | nil => simp at hm
    | cons y r ih =>
      unfold namesN at ih ⊢
      rw [List.map_cons, List.sum_cons]
      rcases List.mem_cons.1 hm with rfl | hm
      · omega
      · have := ih hm
        omega
  have := key l hx
  omega

set_option maxRecDepth 200000 in
set_option maxHeartbeats 1000000 in
theorem add_no {w : World} {v u : Value} (h : NoF w v) : Calls Try.prog 17 #[v, u] w fun e w' => e = .returned (.tuple #[.agg #[.int .i64 0, .int .i64 0, .int .i64 0, .int .i64 0, .int .i64 0], .int .i64 6]) ∧ Below w.heap.size w w' := by
  have hB0 := (Below.refl w.heap.size w).alloc (Nat.le_refl _) (.cells #[.int .i64 0, .int .i64 0, .int .i64 0, .int .i64 0, .int .i64 0] 36)
  have hrow := heap_alloc_new w (.cells #[.int .i64 0, .int .i64 0, .int .i64 0, .int .i64 0, .int .i64 0] 36)
  have HM := hide (made_no (h.below hB0))
  have HB0 := hide hB0
  have HROW := hide hrow
  clear h hB0 hrow
  go_enter Try.func17, Try.ntmps17
  go_wp2_with fail
  refine HM.out.mono ?_
  rintro e1 w1 ⟨rfl, q, rfl⟩
  obtain ⟨W, hW⟩ : ∃ W, (w.alloc (.cells #[.int .i64 0, .int .i64 0, .int .i64 0, .int .i64 0, .int .i64 0] 36)).drewN q = W := ⟨_, rfl⟩
  have hbw9 : Below w.heap.size w W := by rw [← hW]; exact HB0.out.trans (bdrew _ q)
  have hrw : W.heap[w.heap.size]? = some (.cells #[.int .i64 0, .int .i64 0, .int .i64 0, .int .i64 0, .int .i64 0] 36) := by rw [← hW]; exact HROW.out
  rw [hW]
  have cb0 := cell_of_row W w.heap.size 0 _ 36 (0, 0) hrw
  have cb1 := cell_of_row W w.heap.size 1 _ 36 (0, 0) hrw
  have cb2 := cell_of_row W w.heap.size 2 _ 36 (0, 0) hrw
  have cb3 := cell_of_row W w.heap.size 3 _ 36 (0, 0) hrw
  have cb4 := cell_of_row W w.heap.size 4 _ 36 (0, 0) hrw
  have cf0 := frozen_of_row W w.heap.size 0 _ 36 hrw
  have cf1 := frozen_of_row W w.heap.size 1 _ 36 hrw
  have cf2 := frozen_of_row W w.heap.size 2 _ 36 hrw
  have cf3 := frozen_of_row W w.heap.size 3 _ 36 hrw
  have cf4 := frozen_of_row W w.heap.size 4 _ 36 hrw
  have HRW := hide hrw
  have HBW9 := hide hbw9
  clear hrw hbw9 hW
  go_wp2
  refine bodyPost_ret (v := .tuple #[cnV cn0, .int .i64 6]) (by
    have q5 := five_set HRW.out (.int .i64 0) (.int .i64 0) (.int .i64 0) (.int .i64 0) (.int .i64 0)
    generalize (((((W.setCell ⟨w.heap.size, 0, none⟩ (.int .i64 0)).setCell ⟨w.heap.size, 1, none⟩ (.int .i64 0)).setCell ⟨w.heap.size, 2, none⟩ (.int .i64 0)).setCell ⟨w.heap.size, 3, none⟩ (.int .i64 0)).setCell ⟨w.heap.size, 4, none⟩ (.int .i64 0)) = W9 at q5 ⊢
    have m0 := cell_of_row W9 w.heap.size 0 _ 36 (0, 0) q5
    have m1 := cell_of_row W9 w.heap.size 1 _ 36 (0, 0) q5
    have m2 := cell_of_row W9 w.heap.size 2 _ 36 (0, 0) q5
    have m3 := cell_of_row W9 w.heap.size 3 _ 36 (0, 0) q5
    have m4 := cell_of_row W9 w.heap.size 4 _ 36 (0, 0) q5
    have hz9 : w.heap.size < W9.heap.size := by have := (Array.getElem?_eq_some_iff.1 q5).1; exact this
    clear q5
    unfold cnV
    simp at m0 m1 m2 m3 m4
    simp [results, Try.results17, go_sem, m0, m1, m2, m3, m4, hz9, cn0]) rfl ⟨rfl, ?_⟩
  exact bset (bset (bset (bset (bset HBW9.out (Nat.le_refl w.heap.size)) (Nat.le_refl _)) (Nat.le_refl _)) (Nat.le_refl _)) (Nat.le_refl _)

set_option maxRecDepth 200000 in
set_option maxHeartbeats 1000000 in
theorem find_no {w : World} {v : Value} (k : Int) (h : NoF w v) : Calls Try.prog 20 #[v, .int .i64 k] w fun e w' => e = .returned (.tuple #[.agg #[.int .i64 0, .int .i64 0, .int .i64 0, .int .i64 0, .int .i64 0, .string ⟨#[]⟩], .bool false]) ∧ Below w.heap.size w w' := by
  have hB0 := (Below.refl w.heap.size w).alloc (Nat.le_refl _) (.cells #[.int .i64 0, .int .i64 0, .int .i64 0, .int .i64 0, .int .i64 0, .string ⟨#[]⟩] 33)
  have hrow := heap_alloc_new w (.cells #[.int .i64 0, .int .i64 0, .int .i64 0, .int .i64 0, .int .i64 0, .string ⟨#[]⟩] 33)
  have HM := hide (made_no (h.below hB0))
  have HB0 := hide hB0
  have HROW := hide hrow
  clear h hB0 hrow
  go_enter Try.func20, Try.ntmps20
  go_wp2_with fail
  refine HM.out.mono ?_
  rintro e1 w1 ⟨rfl, q, rfl⟩
  obtain ⟨W, hW⟩ : ∃ W, (w.alloc (.cells #[.int .i64 0, .int .i64 0, .int .i64 0, .int .i64 0, .int .i64 0, .string ⟨#[]⟩] 33)).drewN q = W := ⟨_, rfl⟩
  have hb : Below w.heap.size w W := by rw [← hW]; exact HB0.out.trans (bdrew _ q)
  have hrow : W.heap[w.heap.size]? = some (.cells #[.int .i64 0, .int .i64 0, .int .i64 0, .int .i64 0, .int .i64 0, .string ⟨#[]⟩] 33) := by rw [← hW]; exact HROW.out
  rw [hW]
  have f0 := frozen_of_row W w.heap.size 0 _ 33 hrow
  have f1 := frozen_of_row W w.heap.size 1 _ 33 hrow
  have f2 := frozen_of_row W w.heap.size 2 _ 33 hrow
  have f3 := frozen_of_row W w.heap.size 3 _ 33 hrow
  have f4 := frozen_of_row W w.heap.size 4 _ 33 hrow
  have f5 := frozen_of_row W w.heap.size 5 _ 33 hrow
  have b0 := cell_of_row W w.heap.size 0 _ 33 (0, 0) hrow
  have b1 := cell_of_row W w.heap.size 1 _ 33 (0, 0) hrow
  have b2 := cell_of_row W w.heap.size 2 _ 33 (0, 0) hrow
  have b3 := cell_of_row W w.heap.size 3 _ 33 (0, 0) hrow
  have b4 := cell_of_row W w.heap.size 4 _ 33 (0, 0) hrow
  have b5 := cell_of_row W w.heap.size 5 _ 33 (0, 0) hrow
  have HR := hide hrow
  have HB := hide hb
  clear hrow hb hW
  go_wp2
  have h6 := six_set HR.out ⟨0, 0, 0, 0, 0, ⟨#[]⟩⟩
  dsimp only at h6
  refine bodyPost_ret (v := .tuple #[.agg #[.int .i64 0, .int .i64 0, .int .i64 0, .int .i64 0, .int .i64 0, .string ⟨#[]⟩], .bool false]) (by
    generalize ((((((W.setCell ⟨w.heap.size, 0, none⟩ (.int .i64 0)).setCell ⟨w.heap.size, 1, none⟩ (.int .i64 0)).setCell ⟨w.heap.size, 2, none⟩ (.int .i64 0)).setCell ⟨w.heap.size, 3, none⟩ (.int .i64 0)).setCell ⟨w.heap.size, 4, none⟩ (.int .i64 0)).setCell ⟨w.heap.size, 5, none⟩ (.string ⟨#[]⟩)) = W9 at h6 ⊢
    obtain ⟨m0, m1, m2, m3, m4, m5⟩ := h6.z
    have hz9 : w.heap.size < W9.heap.size := h6.lt
    clear h6
    simp [results, Try.results20, go_sem, m0, m1, m2, m3, m4, m5, hz9]) rfl ⟨rfl, ?_⟩
  exact bset (bset (bset (bset (bset (bset HB.out (Nat.le_refl w.heap.size)) (Nat.le_refl _)) (Nat.le_refl _)) (Nat.le_refl _)) (Nat.le_refl _)) (Nat.le_refl _)

/-- A forest of trace 1 that was made since. -/
def GrownPost (w : World) (L : List Sp) (e : Ending) (w' : World) : Prop := ∃ g b, e = .returned (.pointer (some ⟨g, 0, none⟩)) ∧ FoIs w' g b 1 L ∧ w.heap.size ≤ g ∧ w.heap.size ≤ b ∧ Below w.heap.size w w'

set_option maxRecDepth 200000 in
set_option maxHeartbeats 1000000 in
theorem grown_any {w : World} {v : Value} {l : List Sp} (hv : Sps w v l) (hl : l.length ≤ 1000) (hnm : ∀ x ∈ l, x.n.size ≤ 1000000) :
    Calls Try.prog 22 #[v] w (GrownPost w (growP l)) := by
  obtain ⟨p, n, c, rfl⟩ := hv.sl
  have hn := hv.len.1
  have hn1 : n ≤ 1000 := by omega
  have HV := hide hv
  have HN := hide hn
  have HNM := hide hnm
  clear hv hn hnm hl
  go_enter Try.func22, Try.ntmps22
  go_wp2_with fail
  refine (new_any (tr := 1) (by decide) (by decide)).mono ?_
  rintro e1 w1 ⟨rfl, hf1, hb1⟩
  have HF1 := hide (And.intro hf1 hb1)
  clear hf1 hb1
  go_wp2_with fail
  go_loopw [5, 9] (fun _ ix wr => ∃ k : Nat, k ≤ n ∧ ix = .int .i64 k ∧ Hid (FoIs wr (w.heap.size + 1) w.heap.size 1 (growP (l.take k)) ∧ Below w.heap.size w wr)) (fun _ ix _ => n - (intOf ix).toNat)
  case atStart => exact ⟨0, by omega, rfl, hide ⟨HF1.out.1, HF1.out.2⟩⟩
  case round =>
    obtain ⟨k, hk, rfl, HR⟩ := hrel
    by_cases hlt : (k : Int) < (n : Int)
    · obtain ⟨gv, ov, rfl, hx⟩ := HV.out.at_ (by omega)
      obtain ⟨x, hxk⟩ : ∃ x, l[k]? = some x := ⟨_, List.getElem?_eq_getElem (by have := HN.out; omega)⟩
      have hat := (hx k x hxk).below HR.out.2
      obtain ⟨oo, hoo⟩ : ∃ oo, ov + k * 6 = oo := ⟨_, rfl⟩
      rw [hoo] at hat
      have z0 := hat.c0
      have z1 := hat.c1
      have z2 := hat.c2
      have z3 := hat.c3
      have z4 := hat.c4
      have z5 := hat.c5
      have hxn := HNM.out x (List.mem_of_getElem? hxk)
      have htk : growP (l.take (k + 1)) = addP 1 (growP (l.take k)) [x] := by
        unfold growP
        rw [List.take_add_one, hxk]
        simp
      have hb2 : Below wr.heap.size wr ((wr.alloc (.cells #[.int .i64 x.t, .int .i64 x.i, .int .i64 x.p, .int .i64 x.s, .int .i64 x.e, .string x.n] 33)).alloc (.cells #[.int .i64 x.t, .int .i64 x.i, .int .i64 x.p, .int .i64 x.s, .int .i64 x.e, .string x.n] 33)) := ((Below.refl _ _).alloc (Nat.le_refl _) _).alloc (by simp) _
      have hadd := add_any (HR.out.1.below hb2) (sps_lit1 (wr.alloc (.cells #[.int .i64 x.t, .int .i64 x.i, .int .i64 x.p, .int .i64 x.s, .int .i64 x.e, .string x.n] 33)) x) (by simp) (fun y hy => by
        simp only [List.mem_cons, List.not_mem_nil, or_false] at hy
        subst hy
        exact hxn)
      have hsz : (wr.alloc (.cells #[.int .i64 x.t, .int .i64 x.i, .int .i64 x.p, .int .i64 x.s, .int .i64 x.e, .string x.n] 33)).heap.size = wr.heap.size + 1 := by simp
      rw [hsz] at hadd
      have HA := hide hadd
      have HB2 := hide (HR.out.2.trans (hb2.mono HR.out.2.size))
      have HTK := hide htk
      clear hx hxk hat hxn htk hb2 hadd hsz
      obtain ⟨t, i, p', s, en, nm⟩ := x
      dsimp only at *
      go_wp2_with fail
      refine HA.out.mono ?_
      rintro e7 w7 ⟨rfl, hf7, hc7⟩
      have H7 : Hid (FoIs w7 (w.heap.size + 1) w.heap.size 1 (growP (l.take (k + 1))) ∧ Below w.heap.size w w7) := hide (by
        rw [HTK.out]
        exact ⟨hf7, Chg.to_below HB2.out hc7 (fun i hi => by omega)⟩)
      clear hf7 hc7
      go_wp2
      go_roundw
      case rel => exact ⟨k + 1, by omega, by go_num, H7⟩
      case measure => simp [intOf]; omega
    · have hkn : k = n := by omega
      subst hkn
      have hfin := HR.out.1
      rw [List.take_of_length_le (by have := HN.out; omega)] at hfin
      have HFN := hide hfin
      clear hfin
      go_wp2
      go_ret
      exact ⟨_, _, rfl, HFN.out, by omega, by omega, HR.out.2⟩
end Go.Proofs.Ytokmmmpijcbknaa
