/- slices.Clone of bytes, of numbers and of entries. -/
import Derived.Test.YtiiollgipfggmaaNAwake
import Derived.Deep.RegionHeld3
import Derived.Deep.DrawnRows
namespace Go.Proofs.Ytiiollgipfggmaa
set_option linter.unusedVariables false
set_option linter.unusedSimpArgs false
open Go.RowKit

theorem Own.lit0 (w : World) : Own w.heap.size (w.alloc (.cells #[] 5)) (.slice (some ⟨w.heap.size, 0, none⟩) 0 0) [] :=
  .inr ⟨w.heap.size, 0, rfl, Nat.le_refl _, Nat.le_refl _, by simp [maxLen], by simp, fun i h => by omega, fun i h => by omega⟩
set_option maxRecDepth 200000 in
set_option maxHeartbeats 4000000 in
theorem cloneB_any {w : World} {v : Value} {l : List UInt8} (h : By w v l) (hl : l.length ≤ 1000000) : Calls Try.prog 17 #[v] w fun e w' => ∃ p n c, e = .returned (.slice p n c) ∧ Own w.heap.size w' (.slice p n c) l ∧ Below w.heap.size w w' := by
  have qsp : ∀ (w : World) (a : Option Addr) (n c n' c' : Nat), (binOp .eql 24 (.slice a n c) (.slice none n' c')).run Try.prog w = .ok (.bool a.isNone) w := fun w a n c n' c' => Lib.run_eql_slice_nil w _ _ a n c n' c' Try.underlying24
  obtain ⟨p, n, c, rfl⟩ := h.sl
  cases p with
  | none =>
    have hn : l = [] := by
      obtain ⟨p', c', e, hl, hm, hn, hc⟩ := h
      injection e with e1 e2 e3
      exact List.eq_nil_of_length_eq_zero (by have := hn e1.symm; omega)
    subst hn
    have HB := hide (Below.refl w.heap.size w)
    clear h hl
    go_enter Try.func17, Try.ntmps17
    go_wp2
    go_ret
    exact ⟨_, _, _, rfl, Own.nil _ _, HB.out⟩
  | some a =>
    have bE := (Below.refl w.heap.size w).alloc (Nat.le_refl _) (.cells #[] 5)
    have HEE := hide (h.below bE)
    have HOE := hide (Own.lit0 w)
    have HBE := hide bE
    have HEL := hide hl
    clear bE h hl
    go_enter Try.func17, Try.ntmps17
    go_wp2_with (at_builtin; go_loud (refine wpList_append_by rfl (.tmp 5) (.tmp 6) rfl rfl (v := .slice (some ⟨w.heap.size, 0, none⟩) 0 0) (y := .slice (some a) n c) (l := []) (m := l) (B := w.heap.size) rfl rfl HOE.out HEE.out (by have := HEL.out; simp; omega) HBE.out.size ?_); intro v4 w4 ho4 hg4 hb4 hk4; rw [List.nil_append] at ho4; have HO4 := hide ho4; have HB4 := hide (HBE.out.trans hb4); obtain ⟨p4, n4, c4, rfl⟩ := ho4.by_.sl; clear ho4 hg4 hb4 hk4)
    go_ret
    exact ⟨_, _, _, rfl, HO4.out, HB4.out⟩
theorem cloneN_any {w : World} {v : Value} {l : List Int} (h : Ns w v l) (hl : l.length ≤ 1000000) : Calls Try.prog 39 #[v] w fun e w' => ∃ p n c, e = .returned (.slice p n c) ∧ OwnN w.heap.size w' (.slice p n c) l ∧ Below w.heap.size w w' := by
  have hf := h.fits
  obtain ⟨p, n, c, rfl⟩ := h.sl
  have hn := h.len.1
  rcases Nat.eq_zero_or_pos n with h0 | h0
  · have hl0 : l = [] := List.eq_nil_of_length_eq_zero (by omega)
    subst hl0
    cases p with
    | none => exact (Try.slices_Clone_int_nil n c w).mono fun e w' ⟨he, hw⟩ => ⟨_, _, _, he, OwnN.nil _ _, by rw [hw]; exact Below.refl _ _⟩
    | some a =>
      subst h0
      refine (Try.slices_Clone_int_zero a c w).mono fun e w' ⟨v', he, ho, _, hb⟩ => ?_
      have hx : OwnN w.heap.size w' v' [] := ⟨ho, by simp⟩
      obtain ⟨p', n', c', rfl⟩ := hx.ns.sl
      exact ⟨_, _, _, he, hx, hb⟩
  · obtain ⟨g, o, rfl, hc⟩ := h.at_ h0
    refine (Try.slices_Clone_int g o n c l w (by omega) (by omega) fun j hj => ?_).mono fun e w' ⟨v', he, ho, _, hb⟩ => ?_
    · rw [hc j l[j] (List.getElem?_eq_getElem hj)]
      simp [List.getD, hj]
    · rw [List.take_of_length_le (by omega), hn] at ho
      have hx : OwnN w.heap.size w' v' l := ⟨ho, hf⟩
      obtain ⟨p', n', c', rfl⟩ := hx.ns.sl
      exact ⟨_, _, _, he, hx, hb⟩
set_option maxRecDepth 200000 in
set_option maxHeartbeats 4000000 in
theorem cloneEO_any {w : World} {v : Value} {E : List Ec} (h : Ecs w v E) (hl : E.length ≤ 1000000) : Calls Try.prog 41 #[v] w fun e w' => ∃ p n c, e = .returned (.slice p n c) ∧ OwnE w.heap.size w' (.slice p n c) E ∧ Below w.heap.size w w' := by
  have qsp : ∀ (w : World) (a : Option Addr) (n c n' c' : Nat), (binOp .eql 22 (.slice a n c) (.slice none n' c')).run Try.prog w = .ok (.bool a.isNone) w := fun w a n c n' c' => Lib.run_eql_slice_nil w _ _ a n c n' c' Try.underlying22
  obtain ⟨p, n, c, rfl⟩ := h.sl
  cases p with
  | none =>
    have hn : E = [] := by
      obtain ⟨p', c', e, hl, hm, hn, hc⟩ := h
      injection e with e1 e2 e3
      exact List.eq_nil_of_length_eq_zero (by have := hn e1.symm; omega)
    subst hn
    have HB := hide (Below.refl w.heap.size w)
    clear h hl
    go_enter Try.func41, Try.ntmps41
    go_wp2
    go_ret
    exact ⟨_, _, _, rfl, OwnE.nil _ _, HB.out⟩
  | some a =>
    have bE := (Below.refl w.heap.size w).alloc (Nat.le_refl _) (.cells #[] 70)
    have oE : OwnE w.heap.size (w.alloc (.cells #[] 70)) (.slice (some ⟨w.heap.size, 0, none⟩) 0 0) [] := World.ownsRow_lit w #[] 0 (Nat.le_refl _) (by decide) rfl
    have HEE := hide (h.below bE)
    have HOE := hide oE
    have HBE := hide bE
    have HEL := hide hl
    clear bE oE h hl
    go_enter Try.func41, Try.ntmps41
    go_wp2_with (at_builtin; go_loud (refine wpList_pushesE (v := .slice (some ⟨w.heap.size, 0, none⟩) 0 0) (u := .slice (some a) n c) (l := []) (m := E) (B := w.heap.size) rfl (.tmp 5) (.tmp 6) rfl rfl rfl rfl HOE.out HEE.out HBE.out.size (by have := HEL.out; simp; omega) ?_); intro v4 w4 ho4 hb4 hg4; rw [List.nil_append] at ho4; have HO4 := hide ho4; have HB4 := hide (HBE.out.trans hb4); obtain ⟨p4, n4, c4, rfl⟩ := ho4.ecs.sl; clear ho4 hb4 hg4)
    go_ret
    exact ⟨_, _, _, rfl, HO4.out, HB4.out⟩
end Go.Proofs.Ytiiollgipfggmaa
