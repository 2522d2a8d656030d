/- Spans held against each other, and slices of them. -/
import Derived.Test.YtbbdijnkgkabbaaSpBase
import Derived.Test.YtbbdijnkgkabbaaShelf2
import Derived.Laws.StructEq
namespace Go.Proofs.Ytbbdijnkgkabbaa
set_option linter.unusedVariables false
set_option linter.unusedSimpArgs false
open Go.RowKit Go.Lib

theorem name_beq (a b : ByteArray) : (a.toList == b.toList) = decide (a = b) := by
  rw [Bool.eq_iff_iff, decide_eq_true_eq, beq_iff_eq, ByteArray.toList_eq, ByteArray.toList_eq]
  constructor
  · intro h
    obtain ⟨⟨x⟩⟩ := a
    obtain ⟨⟨y⟩⟩ := b
    simp only at h
    rw [h]
  · rintro rfl
    rfl
theorem sp_beq (x y : Sp) : (x.t == y.t && (x.i == y.i && (x.p == y.p && (x.s == y.s && (x.e == y.e && (x.n.toList == y.n.toList)))))) = decide (x = y) := by
  obtain ⟨a, b, c, d, e, f⟩ := x
  obtain ⟨a', b', c', d', e', f'⟩ := y
  dsimp only
  rw [name_beq, Bool.eq_iff_iff]
  simp [Sp.mk.injEq]

theorem sp_eql (x y : Sp) (w : World) : (binOp .eql 33 (.agg (spC x).toArray) (.agg (spC y).toArray)).run Try.prog w = .ok (.bool (decide (x = y))) w := by
  have u3 := Try.underlying3
  have u9 := Try.underlying9
  have a3 := Try.isAgg3
  have z3 := Try.sizeOf3
  have a9 := Try.isAgg9
  have z9 := Try.sizeOf9
  have hS : Try.prog.underlying 33 = some (.struct (Try.prog.fieldsOf 33)) := by kernel_rfl
  have hp : Try.prog.stoodInHeld 33 = false := by kernel_rfl
  rw [← sp_beq]
  simp only [spC]
  rw [run_eql_struct, show (10000 : Nat) = 9999 + 1 from rfl, run_equalIn_agg w 9999 33 _ _ hS hp]
  simp only [Program.fieldsOf, Try.underlying33]
  go_simp
  (repeat' split) <;> simp_all

theorem span_eql : EqlAt Try.prog 33 (fun x : Sp => .agg (spC x).toArray) (fun x y => decide (x = y)) := ⟨sp_eql, GuardAt.agg (fun x : Sp => (spC x).toArray) (by kernel_rfl)⟩
theorem span_neq : NeqAt Try.prog 33 (fun x : Sp => .agg (spC x).toArray) (fun x y => decide (x = y)) := by
  refine ⟨fun x y w => ?_, GuardAt.agg (fun x : Sp => (spC x).toArray) (by kernel_rfl)⟩
  have h := sp_eql x y w
  rw [run_eql_struct] at h
  rw [run_neq_struct]
  cases hr : (Op.equalIn 10000 33 (.agg (spC x).toArray) (.agg (spC y).toArray)).run Try.prog w with
  | ok b w' =>
    rw [hr] at h
    simp only [Result.andThen_ok, Result.ok.injEq, Value.bool.injEq] at h ⊢
    rw [h.1]
    exact ⟨rfl, h.2⟩
  | halt x w' =>
    rw [hr] at h
    simp [Result.andThen] at h

theorem allEq_dec : ∀ l m : List Sp, Lib.allEq (fun x y => decide (x = y)) l m = decide (l = m)
  | [], [] => rfl
  | [], _ :: _ => rfl
  | _ :: _, [] => rfl
  | x :: r, y :: s => by
    rw [Lib.allEq, allEq_dec r s, Bool.eq_iff_iff]
    simp

set_option maxRecDepth 200000 in
set_option maxHeartbeats 400000 in
/-- slices.Equal at spans. -/
theorem equalSp_any {w : World} {v1 v2 : Value} {l1 l2 : List Sp} (h1 : Sps w v1 l1) (h2 : Sps w v2 l2) :
    Calls Try.prog 11 #[v1, v2] w fun e w' => e = .returned (.bool (decide (l1 = l2))) ∧ ∃ q, w' = w.drewN q := by
  obtain ⟨p1, n1, c1, rfl⟩ := h1.sl
  obtain ⟨p2, n2, c2, rfl⟩ := h2.sl
  obtain ⟨hn1, hc1, hm1⟩ := h1.len
  obtain ⟨hn2, hc2, hm2⟩ := h2.len
  unfold maxLen at hm1 hm2
  by_cases hne : n1 = n2
  · subst hne
    by_cases h0 : 0 < n1
    · obtain ⟨g1, o1, rfl, hx1⟩ := h1.at_ h0
      obtain ⟨g2, o2, rfl, hx2⟩ := h2.at_ h0
      have := AnyQ.slices_Equal Try.equalSp 6 Try.isAgg33 Try.sizeOf33 spC spC_length (fun x y => decide (x = y)) span_neq g1 o1 n1 c1 g2 o2 n1 c2 l1 l2 w (by omega) (by omega) (by omega) (by omega)
        (fun j hj i v hi => by
          have hj' : l1[j]? = some l1[j]! := by rw [List.getElem?_eq_getElem hj, getElem!_pos l1 j hj]
          exact hx1 j _ hj' i v hi)
        (fun j hj i v hi => by
          have hj' : l2[j]? = some l2[j]! := by rw [List.getElem?_eq_getElem hj, getElem!_pos l2 j hj]
          exact hx2 j _ hj' i v hi)
      refine this.mono fun e w' ⟨he, hw⟩ => ⟨?_, hw⟩
      rw [he, List.take_of_length_le (by omega), List.take_of_length_le (by omega), allEq_dec]
    · obtain rfl : l1 = [] := List.eq_nil_of_length_eq_zero (by omega)
      obtain rfl : l2 = [] := List.eq_nil_of_length_eq_zero (by omega)
      obtain rfl : n1 = 0 := by omega
      clear h1 h2 hn1 hn2 h0
      rw [decide_eq_true rfl]
      go_enter Try.func11, Try.ntmps11
      go_wp2
      refine wp_loop_rounds 1 ?_
      rw [rounds_succ]
      go_wp2
      go_ret
      exact ⟨rfl, 0, rfl⟩
  · have hd : decide (l1 = l2) = false := decide_eq_false (by rintro rfl; omega)
    rw [hd]
    have hi : ¬ (n1 : Int) = (n2 : Int) := by omega
    clear h1 h2 hd hn1 hn2
    go_enter Try.func11, Try.ntmps11
    go_wp2
    go_ret
    exact ⟨rfl, 0, rfl⟩

theorem Try.infoSp' : (Try.prog.info? 33).map (fun i => (i.zero, i.size, i.bytes)) = some (some (.agg #[.int .i64 0, .int .i64 0, .int .i64 0, .int .i64 0, .int .i64 0, .string ⟨#[]⟩]), 6, 56) := by kernel_rfl
theorem flat_get {l : List Sp} {j : Nat} {u : Value} (h : (l.flatMap spC)[j]? = some u) : ∃ x, l[j / 6]? = some x ∧ (spC x)[j % 6]? = some u := by
  have hj := (List.getElem?_eq_some_iff.1 h).1
  rw [flat_len] at hj
  have hx : l[j / 6]? = some (l[j / 6]'(by omega)) := List.getElem?_eq_getElem _
  refine ⟨_, hx, ?_⟩
  rw [← flat_at l (j / 6) (j % 6) hx (Nat.mod_lt _ (by omega)), show j / 6 * 6 + j % 6 = j by omega]
  exact h

set_option maxRecDepth 200000 in
set_option maxHeartbeats 400000 in
/-- slices.Clone at spans. -/
theorem cloneSp_any {w : World} {v : Value} {l : List Sp} (h : Sps w v l) (hl : l.length ≤ 1000000) :
    Calls Try.prog 8 #[v] w fun e w' => ∃ v', e = .returned v' ∧ OwnS w.heap.size w' v' l ∧ Below w.heap.size w w' := by
  obtain ⟨p, n, c, rfl⟩ := h.sl
  obtain ⟨hn, hnc, hm⟩ := h.len
  have qsp : ∀ (w : World) (a : Option Addr) (n c n' c' : Nat), (binOp .eql 27 (.slice a n c) (.slice none n' c')).run Try.prog w = .ok (.bool a.isNone) w := fun w a n c n' c' => Lib.run_eql_slice_nil w _ _ a n c n' c' Try.underlying27
  rcases p with _ | a
  · obtain rfl : l = [] := by
      obtain ⟨p', c', e, _, _, hn0, _⟩ := h
      injection e with e1 e2 e3
      subst e1
      exact List.eq_nil_of_length_eq_zero (by have := hn0 rfl; omega)
    go_enter Try.func8, Try.ntmps8
    go_wp2
    go_ret
    exact ⟨_, rfl, OwnS.nil _ _, Below.refl _ _⟩
  · obtain ⟨i0, hi, hz0, hz1, hz2⟩ := info_parts Try.infoSp'
    have A := hide h
    have HN := hide hn
    clear h hn
    go_enter Try.func8, Try.ntmps8
    go_wp2_with (at_builtin; refine wpList_append_own _ rfl _ _ 27 rfl w.heap.size 33 i0 (.agg #[.int .i64 0, .int .i64 0, .int .i64 0, .int .i64 0, .int .i64 0, .string ⟨#[]⟩]) 6 56 Try.underlying27 hi hz0 hz1 hz2 rfl (by decide) _ _ _ rfl (World.ownsRow_made w #[] 0 (Nat.le_refl _) (Nat.zero_le _) rfl) a n c (l.flatMap spC) rfl ?qc1 ?qc2 ?qc3 ?qc4 ?qc5 ?qc6 ?_)
    case qc1 => rw [flat_len, HN.out]
    case qc2 =>
      intro j u hj
      obtain ⟨x, hx, hu⟩ := flat_get hj
      have hpos : 0 < n := by
        have := (List.getElem?_eq_some_iff.1 hx).1
        have := HN.out
        omega
      obtain ⟨g, o, e, hc⟩ := A.out.at_ hpos
      injection e with e
      subst e
      have := hc (j / 6) x hx (j % 6) u hu
      rw [show o + j / 6 * 6 + j % 6 = o + j by omega] at this
      refine Lib.cell?_alloc_some _ ?_
      rw [add_lit0]
      exact this
    case qc3 =>
      intro u hu
      obtain ⟨x, _, hx⟩ := List.mem_flatMap.1 hu
      exact spC_one x u hx
    case qc4 => have := HN.out; simp only [maxLen]; omega
    case qc5 => have := HN.out; omega
    case qc6 => simp
    intro v' w1 hown hgrow hnil
    go_wp2
    go_ret
    refine ⟨v', rfl, ?_, ?_⟩
    · unfold OwnS
      rw [← HN.out]
      simpa using hown
    · exact ((Below.refl _ w).alloc (Nat.le_refl _) _).grown hgrow (by simp) (by intro k hk; simp [Value.ownBlock] at hk; omega)
end Go.Proofs.Ytbbdijnkgkabbaa
