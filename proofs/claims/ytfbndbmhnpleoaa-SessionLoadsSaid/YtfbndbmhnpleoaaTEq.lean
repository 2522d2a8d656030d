/- Replies and sessions held against each other; slices.Equal at sessions. -/
import Derived.Test.YtfbndbmhnpleoaaTSts
import Derived.Test.YtfbndbmhnpleoaaShelf
import Derived.Laws.StructEq
namespace Go.Proofs.Ytfbndbmhnpleoaa
set_option linter.unusedVariables false
set_option linter.unusedSimpArgs false
open Go.RowKit Go.Lib

instance : Inhabited St := ⟨st0⟩
theorem rp_beq (x y : Rp) : (x.er == y.er && (x.rs == y.rs && (x.gn == y.gn && (x.ad == y.ad && (x.sa == y.sa && (x.ot == y.ot && (x.cy == y.cy && (x.fu == y.fu)))))))) = decide (x = y) := by
  obtain ⟨a1, a2, a3, a4, a5, a6, a7, a8⟩ := x
  obtain ⟨b1, b2, b3, b4, b5, b6, b7, b8⟩ := y
  dsimp only
  rw [Bool.eq_iff_iff]
  simp [Rp.mk.injEq]
theorem st_beq (x y : St) : (x.s == y.s && (x.q == y.q && (x.a == y.a && (x.r.er == y.r.er && (x.r.rs == y.r.rs && (x.r.gn == y.r.gn && (x.r.ad == y.r.ad && (x.r.sa == y.r.sa && (x.r.ot == y.r.ot && (x.r.cy == y.r.cy && (x.r.fu == y.r.fu))))))))))) = decide (x = y) := by
  obtain ⟨c1, c2, c3, a1, a2, a3, a4, a5, a6, a7, a8⟩ := x
  obtain ⟨d1, d2, d3, b1, b2, b3, b4, b5, b6, b7, b8⟩ := y
  dsimp only
  rw [Bool.eq_iff_iff]
  simp [St.mk.injEq, Rp.mk.injEq]
set_option maxRecDepth 200000 in
set_option maxHeartbeats 4000000 in
theorem rp_eql (x y : Rp) (w : World) : (binOp .eql 41 (.agg (rpC x).toArray) (.agg (rpC y).toArray)).run Try.prog w = .ok (.bool (decide (x = y))) w := by
  have u3 := Try.underlying3
  have a3 := Try.isAgg3
  have z3 := Try.sizeOf3
  have ue := Try.underlying26
  have ae := Try.isAgg26
  have ze := Try.sizeOf26
  have ag0 := Try.isAgg39
  have zg0 := Try.sizeOf39
  have hS : Try.prog.underlying 41 = some (.struct (Try.prog.fieldsOf 41)) := by kernel_rfl
  have hp : Try.prog.stoodInHeld 41 = false := by kernel_rfl
  rw [← rp_beq]
  simp only [rpC]
  rw [run_eql_struct, show (10000 : Nat) = 9999 + 1 from rfl, run_equalIn_agg w 9999 41 _ _ hS hp]
  simp only [Program.fieldsOf, Try.underlying41]
  clear hS
  go_simp
  (repeat' split) <;> simp_all
theorem rp_neqB (x y : Rp) (w : World) : (binOp .neq 41 (.agg (rpC x).toArray) (.agg (rpC y).toArray)).run Try.prog w = .ok (.bool (!decide (x = y))) w := by
  have h := rp_eql x y w
  rw [run_eql_struct] at h
  rw [run_neq_struct]
  cases hr : (Op.equalIn 10000 41 (.agg (rpC x).toArray) (.agg (rpC y).toArray)).run Try.prog w with
  | ok b w' =>
    rw [hr] at h
    simp only [Result.andThen_ok, Result.ok.injEq, Value.bool.injEq] at h ⊢
    rw [h.1]
    exact ⟨rfl, h.2⟩
  | halt x w' =>
    rw [hr] at h
    simp [Result.andThen] at h
set_option maxRecDepth 200000 in
set_option maxHeartbeats 4000000 in
theorem st_eql (x y : St) (w : World) : (binOp .eql 51 (.agg (stC x).toArray) (.agg (stC y).toArray)).run Try.prog w = .ok (.bool (decide (x = y))) w := by
  have u3 := Try.underlying3
  have a3 := Try.isAgg3
  have z3 := Try.sizeOf3
  have ue := Try.underlying26
  have ae := Try.isAgg26
  have ze := Try.sizeOf26
  have ag0 := Try.isAgg41
  have zg0 := Try.sizeOf41
  have ag1 := Try.isAgg39
  have zg1 := Try.sizeOf39
  have hS : Try.prog.underlying 51 = some (.struct (Try.prog.fieldsOf 51)) := by kernel_rfl
  have hp : Try.prog.stoodInHeld 51 = false := by kernel_rfl
  rw [← st_beq]
  simp only [stC]
  rw [run_eql_struct, show (10000 : Nat) = 9999 + 1 from rfl, run_equalIn_agg w 9999 51 _ _ hS hp]
  simp only [Program.fieldsOf, Try.underlying51]
  clear hS
  go_simp
  (repeat' split) <;> simp_all
theorem st_neqB (x y : St) (w : World) : (binOp .neq 51 (.agg (stC x).toArray) (.agg (stC y).toArray)).run Try.prog w = .ok (.bool (!decide (x = y))) w := by
  have h := st_eql x y w
  rw [run_eql_struct] at h
  rw [run_neq_struct]
  cases hr : (Op.equalIn 10000 51 (.agg (stC x).toArray) (.agg (stC y).toArray)).run Try.prog w with
  | ok b w' =>
    rw [hr] at h
    simp only [Result.andThen_ok, Result.ok.injEq, Value.bool.injEq] at h ⊢
    rw [h.1]
    exact ⟨rfl, h.2⟩
  | halt x w' =>
    rw [hr] at h
    simp [Result.andThen] at h
theorem seat_neq : NeqAt Try.prog 51 (fun x : St => .agg (stC x).toArray) (fun x y => decide (x = y)) := by
  refine ⟨fun x y w => ?_, GuardAt.agg (fun x : St => (stC x).toArray) (by kernel_rfl)⟩
  have h := st_eql x y w
  rw [run_eql_struct] at h
  rw [run_neq_struct]
  cases hr : (Op.equalIn 10000 51 (.agg (stC x).toArray) (.agg (stC y).toArray)).run Try.prog w with
  | ok b w' =>
    rw [hr] at h
    simp only [Result.andThen_ok, Result.ok.injEq, Value.bool.injEq] at h ⊢
    rw [h.1]
    exact ⟨rfl, h.2⟩
  | halt x w' =>
    rw [hr] at h
    simp [Result.andThen] at h
theorem allEqT_dec : ∀ l m : List St, Lib.allEq (fun x y => decide (x = y)) l m = decide (l = m)
  | [], [] => rfl
  | [], _ :: _ => rfl
  | _ :: _, [] => rfl
  | x :: r, y :: s => by
    rw [Lib.allEq, allEqT_dec r s, Bool.eq_iff_iff]
    simp

set_option maxRecDepth 200000 in
set_option maxHeartbeats 400000 in
/-- slices.Equal at sessions. -/
theorem equalSt_any {w : World} {v1 v2 : Value} {l1 l2 : List St} (h1 : Sts w v1 l1) (h2 : Sts w v2 l2) :
    Calls Try.prog 24 #[v1, v2] w fun e w' => e = .returned (.bool (decide (l1 = l2))) ∧ ∃ q, w' = w.drewN q := by
  obtain ⟨p1, n1, c1, rfl⟩ := h1.sl
  obtain ⟨p2, n2, c2, rfl⟩ := h2.sl
  obtain ⟨hn1, hc1, hm1⟩ := h1.len
  obtain ⟨hn2, hc2, hm2⟩ := h2.len
  unfold maxLen at hm1 hm2
  by_cases hne : n1 = n2
  · subst hne
    by_cases h0 : 0 < n1
    · obtain ⟨g1, o1, rfl, hx1⟩ := h1.at_ h0
      obtain ⟨g2, o2, rfl, hx2⟩ := h2.at_ h0
      have := AnyQ.slices_Equal Try.equalSt 11 Try.isAgg51 Try.sizeOf51 stC stC_length (fun x y => decide (x = y)) seat_neq g1 o1 n1 c1 g2 o2 n1 c2 l1 l2 w (by omega) (by omega) (by omega) (by omega)
        (fun j hj i v hi => by
          have hj' : l1[j]? = some l1[j]! := by rw [List.getElem?_eq_getElem hj, getElem!_pos l1 j hj]
          exact hx1 j _ hj' i v hi)
        (fun j hj i v hi => by
          have hj' : l2[j]? = some l2[j]! := by rw [List.getElem?_eq_getElem hj, getElem!_pos l2 j hj]
          exact hx2 j _ hj' i v hi)
      refine this.mono fun e w' ⟨he, hw⟩ => ⟨?_, hw⟩
      rw [he, List.take_of_length_le (by omega), List.take_of_length_le (by omega), allEqT_dec]
    · obtain rfl : l1 = [] := List.eq_nil_of_length_eq_zero (by omega)
      obtain rfl : l2 = [] := List.eq_nil_of_length_eq_zero (by omega)
      obtain rfl : n1 = 0 := by omega
      clear h1 h2 hn1 hn2 h0
      rw [decide_eq_true rfl]
      go_enter Try.func24, Try.ntmps24
      go_wp2
      refine wp_loop_rounds 1 ?_
      rw [rounds_succ]
      go_wp2
      go_ret
      exact ⟨rfl, 0, rfl⟩
  · have hd : decide (l1 = l2) = false := decide_eq_false (by rintro rfl; omega)
    rw [hd]
    have hi : ¬ (n1 : Int) = (n2 : Int) := by omega
    clear h1 h2 hd hn1 hn2
    go_enter Try.func24, Try.ntmps24
    go_wp2
    go_ret
    exact ⟨rfl, 0, rfl⟩

end Go.Proofs.Ytfbndbmhnpleoaa
