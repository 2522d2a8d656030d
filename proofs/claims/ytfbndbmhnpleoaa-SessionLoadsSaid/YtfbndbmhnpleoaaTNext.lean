/- The session whose bytes come next. -/
import Derived.Test.YtfbndbmhnpleoaaTLdPure
namespace Go.Proofs.Ytfbndbmhnpleoaa
set_option linter.unusedVariables false
set_option linter.unusedSimpArgs false
open Go.RowKit

theorem grown_set_new {w w' : World} {row : Option Nat} (h : w.grownBy w' row) {b i : Nat} {x : Value} (hb : w.heap.size ≤ b) : w.grownBy (w'.setCell ⟨b, i, none⟩ x) row :=
  ⟨h.os, h.tape, h.output, by have := h.size; simpa [World.setCell] using this, fun k hk hne => (heap_setCell_other w' ⟨b, i, none⟩ k _ (by simp; omega)).trans (h.block k hk hne)⟩
theorem grown_alloc_new {w w' : World} {row : Option Nat} (h : w.grownBy w' row) (o : Obj) : w.grownBy (w'.alloc o) row := gtrans h ((World.grownBy_alloc w' o none).but row)
theorem Sc.set_other {w : World} {g : Nat} {v : Value} {at_ E : Nat} (h : Sc w g v at_ E) {b i : Nat} (x : Value) (hne : g ≠ b) : Sc (w.setCell ⟨b, i, none⟩ x) g v at_ E := by
  unfold Sc at *
  rw [heap_setCell_other w ⟨b, i, none⟩ g _ (by simpa using hne)]
  exact h
theorem Sc.alloc' {w : World} {g : Nat} {v : Value} {at_ E : Nat} (h : Sc w g v at_ E) (o : Obj) : Sc (w.alloc o) g v at_ E := by
  have := h.lt
  unfold Sc at *
  rw [Below.heap_alloc w o g this]
  exact h
/-- A box of eleven, written anew. -/
theorem set11 (Y : World) (r : Nat) (t : TypeId) (v0 v1 v2 v3 v4 v5 v6 v7 v8 v9 v10 x0 x1 x2 x3 x4 x5 x6 x7 x8 x9 x10 : Value) (h : Y.heap[r]? = some (.cells #[v0, v1, v2, v3, v4, v5, v6, v7, v8, v9, v10] t)) :
    (((((((((((Y.setCell ⟨r, 0, none⟩ x0).setCell ⟨r, 1, none⟩ x1).setCell ⟨r, 2, none⟩ x2).setCell ⟨r, 3, none⟩ x3).setCell ⟨r, 4, none⟩ x4).setCell ⟨r, 5, none⟩ x5).setCell ⟨r, 6, none⟩ x6).setCell ⟨r, 7, none⟩ x7).setCell ⟨r, 8, none⟩ x8).setCell ⟨r, 9, none⟩ x9).setCell ⟨r, 10, none⟩ x10).heap[r]? = some (.cells #[x0, x1, x2, x3, x4, x5, x6, x7, x8, x9, x10] t) := by
  have q0 := heap_setCell_same Y r 0 _ t x0 h
  have q1 := heap_setCell_same _ r 1 _ t x1 q0
  have q2 := heap_setCell_same _ r 2 _ t x2 q1
  have q3 := heap_setCell_same _ r 3 _ t x3 q2
  have q4 := heap_setCell_same _ r 4 _ t x4 q3
  have q5 := heap_setCell_same _ r 5 _ t x5 q4
  have q6 := heap_setCell_same _ r 6 _ t x6 q5
  have q7 := heap_setCell_same _ r 7 _ t x7 q6
  have q8 := heap_setCell_same _ r 8 _ t x8 q7
  have q9 := heap_setCell_same _ r 9 _ t x9 q8
  have q10 := heap_setCell_same _ r 10 _ t x10 q9
  simp only [List.setIfInBounds_toArray, List.set_cons_succ, List.set_cons_zero] at q10
  exact q10

set_option maxRecDepth 200000 in
set_option maxHeartbeats 4000000 in
theorem next_any {w : World} {g : Nat} {p : Option Addr} {n c : Nat} {st : Nat × Nat} {l : List UInt8} (hS : Sc w g (.slice p n c) st.1 st.2) (hby : By w (.slice p n c) l) (hne : l = [] ∨ ∀ k, (Value.slice p n c).ownBlock = some k → some g ≠ some k) (hat : st.1 ≤ l.length) :
    Calls Try.prog 18 #[.pointer (some ⟨g, 0, none⟩)] w (ScPost w g (.slice p n c) (nextT l st).2.1 (nextT l st).2.2 (stV (nextT l st).1)) := by
  have hn := hby.len.1
  have hlt := hS.lt
  obtain ⟨a0, E0⟩ := st
  dsimp only at hS hat
  have HGB : Hid (∀ V, w.grownBy V (some g) → By V (.slice p n c) l) := hide fun V hV => hby.grown hV hne
  obtain ⟨n1, a1, E1, h1⟩ : ∃ n a E, nx l (a0, E0) = (n, a, E) := ⟨_, _, _, rfl⟩
  obtain ⟨n2, a2, E2, h2⟩ : ∃ n a E, nx l (a1, E1) = (n, a, E) := ⟨_, _, _, rfl⟩
  obtain ⟨n3, a3, E3, h3⟩ : ∃ n a E, nx l (a2, E2) = (n, a, E) := ⟨_, _, _, rfl⟩
  obtain ⟨n4, a4, E4, h4⟩ : ∃ n a E, nx l (a3, E3) = (n, a, E) := ⟨_, _, _, rfl⟩
  obtain ⟨n5, a5, E5, h5⟩ : ∃ n a E, nx l (a4, E4) = (n, a, E) := ⟨_, _, _, rfl⟩
  obtain ⟨n6, a6, E6, h6⟩ : ∃ n a E, nx l (a5, E5) = (n, a, E) := ⟨_, _, _, rfl⟩
  obtain ⟨n7, a7, E7, h7⟩ : ∃ n a E, nx l (a6, E6) = (n, a, E) := ⟨_, _, _, rfl⟩
  obtain ⟨n8, a8, E8, h8⟩ : ∃ n a E, nx l (a7, E7) = (n, a, E) := ⟨_, _, _, rfl⟩
  obtain ⟨n9, a9, E9, h9⟩ : ∃ n a E, nx l (a8, E8) = (n, a, E) := ⟨_, _, _, rfl⟩
  obtain ⟨n10, a10, E10, h10⟩ : ∃ n a E, nx l (a9, E9) = (n, a, E) := ⟨_, _, _, rfl⟩
  obtain ⟨n11, a11, E11, h11⟩ : ∃ n a E, nx l (a10, E10) = (n, a, E) := ⟨_, _, _, rfl⟩
  have hnx : nextT l (a0, E0) = (⟨n1, n2, n3, ⟨n4, n5, n6, n7, n8, n9, n10, n11⟩⟩, a11, E11) := by
    unfold nextT
    simp only [h1, h2, h3, h4, h5, h6, h7, h8, h9, h10, h11]
  have l1 : a1 ≤ l.length := by have := (nx_le (l := l) (st := (a0, E0)) (by dsimp only; omega)).1; rw [h1] at this; exact this
  have l2 : a2 ≤ l.length := by have := (nx_le (l := l) (st := (a1, E1)) (by dsimp only; omega)).1; rw [h2] at this; exact this
  have l3 : a3 ≤ l.length := by have := (nx_le (l := l) (st := (a2, E2)) (by dsimp only; omega)).1; rw [h3] at this; exact this
  have l4 : a4 ≤ l.length := by have := (nx_le (l := l) (st := (a3, E3)) (by dsimp only; omega)).1; rw [h4] at this; exact this
  have l5 : a5 ≤ l.length := by have := (nx_le (l := l) (st := (a4, E4)) (by dsimp only; omega)).1; rw [h5] at this; exact this
  have l6 : a6 ≤ l.length := by have := (nx_le (l := l) (st := (a5, E5)) (by dsimp only; omega)).1; rw [h6] at this; exact this
  have l7 : a7 ≤ l.length := by have := (nx_le (l := l) (st := (a6, E6)) (by dsimp only; omega)).1; rw [h7] at this; exact this
  have l8 : a8 ≤ l.length := by have := (nx_le (l := l) (st := (a7, E7)) (by dsimp only; omega)).1; rw [h8] at this; exact this
  have l9 : a9 ≤ l.length := by have := (nx_le (l := l) (st := (a8, E8)) (by dsimp only; omega)).1; rw [h9] at this; exact this
  have l10 : a10 ≤ l.length := by have := (nx_le (l := l) (st := (a9, E9)) (by dsimp only; omega)).1; rw [h10] at this; exact this
  have l11 : a11 ≤ l.length := by have := (nx_le (l := l) (st := (a10, E10)) (by dsimp only; omega)).1; rw [h11] at this; exact this
  rw [hnx]
  dsimp only
  have HNX := hide hnx
  clear hnx
  have HL := hide (And.intro hn hat)
  have H1 := hide h1
  have L1 := hide l1
  clear h1 l1
  have H2 := hide h2
  have L2 := hide l2
  clear h2 l2
  have H3 := hide h3
  have L3 := hide l3
  clear h3 l3
  have H4 := hide h4
  have L4 := hide l4
  clear h4 l4
  have H5 := hide h5
  have L5 := hide l5
  clear h5 l5
  have H6 := hide h6
  have L6 := hide l6
  clear h6 l6
  have H7 := hide h7
  have L7 := hide l7
  clear h7 l7
  have H8 := hide h8
  have L8 := hide l8
  clear h8 l8
  have H9 := hide h9
  have L9 := hide l9
  clear h9 l9
  have H10 := hide h10
  have L10 := hide l10
  clear h10 l10
  have H11 := hide h11
  have L11 := hide l11
  clear h11 l11
  obtain ⟨X, hX⟩ : ∃ X, w.alloc (.cells #[.int .i64 0, .int .i64 0, .int .i64 0, .int .i64 0, .int .i64 0, .int .i64 0, .int .i64 0, .int .i64 0, .int .i64 0, .int .i64 0, .int .i64 0] 51) = X := ⟨_, rfl⟩
  have hrX : X.heap[w.heap.size]? = some (.cells #[.int .i64 0, .int .i64 0, .int .i64 0, .int .i64 0, .int .i64 0, .int .i64 0, .int .i64 0, .int .i64 0, .int .i64 0, .int .i64 0, .int .i64 0] 51 (0, 0)) := by rw [← hX]; exact heap_alloc_new w _
  have S0 : Hid (Sc X g (.slice p n c) a0 E0) := hide (by rw [← hX]; exact hS.alloc' _)
  have G0 : Hid (w.grownBy X (some g)) := hide (by rw [← hX]; exact grown_alloc_new (World.grownBy.refl w _) _)
  have hwX : w.heap.size < X.heap.size := (Array.getElem?_eq_some_iff.1 hrX).1
  have hgw : g ≠ w.heap.size := by omega
  have R0 := hide hrX
  have HX := hide hX
  clear hn hat hS hby hrX hX
  go_enter Try.func18, Try.ntmps18
  have k1 := scanNumber_any S0.out (HGB.out _ G0.out) (by have := HL.out; omega) (N := n1) (A := a1) (E := E1) H1.out
  go_wp2_with fail
  rw [HX.out]
  refine k1.mono ?_
  rintro e w1 ⟨rfl, hs1, hg1⟩
  have S1 := hide hs1
  have G1 := hide (gtrans G0.out hg1)
  have R1 := hide ((hg1.block w.heap.size hwX (fun e => hgw (by first | exact Option.some.inj e | exact (Option.some.inj e).symm))).trans R0.out)
  have hz1 : w.heap.size < w1.heap.size := Nat.lt_of_lt_of_le hwX hg1.size
  clear hs1 hg1 k1
  have k2 := scanNumber_any S1.out (HGB.out _ G1.out) (by have := L1.out; have := HL.out.1; omega) (N := n2) (A := a2) (E := E2) H2.out
  go_wp2_with fail
  refine k2.mono ?_
  rintro e w2 ⟨rfl, hs2, hg2⟩
  have S2 := hide hs2
  have G2 := hide (gtrans G1.out hg2)
  have R2 := hide ((hg2.block w.heap.size hz1 (fun e => hgw (by first | exact Option.some.inj e | exact (Option.some.inj e).symm))).trans R1.out)
  have hz2 : w.heap.size < w2.heap.size := Nat.lt_of_lt_of_le hz1 hg2.size
  clear hs2 hg2 k2
  have k3 := scanNumber_any S2.out (HGB.out _ G2.out) (by have := L2.out; have := HL.out.1; omega) (N := n3) (A := a3) (E := E3) H3.out
  go_wp2_with fail
  refine k3.mono ?_
  rintro e w3 ⟨rfl, hs3, hg3⟩
  have S3 := hide hs3
  have G3 := hide (gtrans G2.out hg3)
  have R3 := hide ((hg3.block w.heap.size hz2 (fun e => hgw (by first | exact Option.some.inj e | exact (Option.some.inj e).symm))).trans R2.out)
  have hz3 : w.heap.size < w3.heap.size := Nat.lt_of_lt_of_le hz2 hg3.size
  clear hs3 hg3 k3
  obtain ⟨Y, hY⟩ : ∃ Y, w3.alloc (.cells #[.int .i64 n1, .int .i64 n2, .int .i64 n3, .int .i64 0, .int .i64 0, .int .i64 0, .int .i64 0, .int .i64 0, .int .i64 0, .int .i64 0, .int .i64 0] 51) = Y := ⟨_, rfl⟩
  have hbY : Y.heap[w3.heap.size]? = some (.cells #[.int .i64 n1, .int .i64 n2, .int .i64 n3, .int .i64 0, .int .i64 0, .int .i64 0, .int .i64 0, .int .i64 0, .int .i64 0, .int .i64 0, .int .i64 0] 51 (0, 0)) := by rw [← hY]; exact heap_alloc_new w3 _
  have S3' : Hid (Sc Y g (.slice p n c) a3 E3) := hide (by rw [← hY]; exact S3.out.alloc' _)
  have G3' : Hid (w.grownBy Y (some g)) := hide (by rw [← hY]; exact grown_alloc_new G3.out _)
  have R3' : Hid (Y.heap[w.heap.size]? = some (.cells #[.int .i64 0, .int .i64 0, .int .i64 0, .int .i64 0, .int .i64 0, .int .i64 0, .int .i64 0, .int .i64 0, .int .i64 0, .int .i64 0, .int .i64 0] 51 (0, 0))) := hide (by rw [← hY]; exact (Below.heap_alloc w3 _ _ hz3).trans R3.out)
  have hzY : w3.heap.size < Y.heap.size := (Array.getElem?_eq_some_iff.1 hbY).1
  have hwY : w.heap.size < Y.heap.size := by omega
  have hgb : g ≠ w3.heap.size := by omega
  have hwb : w.heap.size ≠ w3.heap.size := by omega
  have B3 := hide hbY
  have HY := hide hY
  clear hbY hY
  have k4 := scanNumber_any S3'.out (HGB.out _ G3'.out) (by have := L3.out; have := HL.out.1; omega) (N := n4) (A := a4) (E := E4) H4.out
  go_wp2_with fail
  rw [HY.out]
  refine k4.mono ?_
  rintro e w4 ⟨rfl, hs4, hg4⟩
  have S4 := hide hs4
  have G4 := hide (gtrans G3'.out hg4)
  have R4 := hide ((hg4.block w.heap.size hwY (fun e => hgw (by first | exact Option.some.inj e | exact (Option.some.inj e).symm))).trans R3'.out)
  have B4 := hide ((hg4.block w3.heap.size hzY (fun e => hgb (by first | exact Option.some.inj e | exact (Option.some.inj e).symm))).trans B3.out)
  have hz4 : w.heap.size < w4.heap.size := Nat.lt_of_lt_of_le hwY hg4.size
  have hy4 : w3.heap.size < w4.heap.size := Nat.lt_of_lt_of_le hzY hg4.size
  clear hs4 hg4 k4
  have k5 := scanNumber_any S4.out (HGB.out _ G4.out) (by have := L4.out; have := HL.out.1; omega) (N := n5) (A := a5) (E := E5) H5.out
  go_wp2_with fail
  refine k5.mono ?_
  rintro e w5 ⟨rfl, hs5, hg5⟩
  have S5 := hide hs5
  have G5 := hide (gtrans G4.out hg5)
  have R5 := hide ((hg5.block w.heap.size hz4 (fun e => hgw (by first | exact Option.some.inj e | exact (Option.some.inj e).symm))).trans R4.out)
  have B5 := hide ((hg5.block w3.heap.size hy4 (fun e => hgb (by first | exact Option.some.inj e | exact (Option.some.inj e).symm))).trans B4.out)
  have hz5 : w.heap.size < w5.heap.size := Nat.lt_of_lt_of_le hz4 hg5.size
  have hy5 : w3.heap.size < w5.heap.size := Nat.lt_of_lt_of_le hy4 hg5.size
  clear hs5 hg5 k5
  have k6 := scanNumber_any S5.out (HGB.out _ G5.out) (by have := L5.out; have := HL.out.1; omega) (N := n6) (A := a6) (E := E6) H6.out
  go_wp2_with fail
  refine k6.mono ?_
  rintro e w6 ⟨rfl, hs6, hg6⟩
  have S6 := hide hs6
  have G6 := hide (gtrans G5.out hg6)
  have R6 := hide ((hg6.block w.heap.size hz5 (fun e => hgw (by first | exact Option.some.inj e | exact (Option.some.inj e).symm))).trans R5.out)
  have B6 := hide ((hg6.block w3.heap.size hy5 (fun e => hgb (by first | exact Option.some.inj e | exact (Option.some.inj e).symm))).trans B5.out)
  have hz6 : w.heap.size < w6.heap.size := Nat.lt_of_lt_of_le hz5 hg6.size
  have hy6 : w3.heap.size < w6.heap.size := Nat.lt_of_lt_of_le hy5 hg6.size
  clear hs6 hg6 k6
  have b3 : w6.cell? ⟨w3.heap.size, 3, none⟩ = some (.int .i64 0) := cell_of_row w6 w3.heap.size 3 _ 51 (0, 0) B6.out
  have fb3 : w6.frozen? ⟨w3.heap.size, 3, none⟩ = false := frozen_of_row w6 w3.heap.size 3 _ 51 B6.out
  have b4 : w6.cell? ⟨w3.heap.size, 4, none⟩ = some (.int .i64 0) := cell_of_row w6 w3.heap.size 4 _ 51 (0, 0) B6.out
  have fb4 : w6.frozen? ⟨w3.heap.size, 4, none⟩ = false := frozen_of_row w6 w3.heap.size 4 _ 51 B6.out
  have b5 : w6.cell? ⟨w3.heap.size, 5, none⟩ = some (.int .i64 0) := cell_of_row w6 w3.heap.size 5 _ 51 (0, 0) B6.out
  have fb5 : w6.frozen? ⟨w3.heap.size, 5, none⟩ = false := frozen_of_row w6 w3.heap.size 5 _ 51 B6.out
  have b6 : w6.cell? ⟨w3.heap.size, 6, none⟩ = some (.int .i64 0) := cell_of_row w6 w3.heap.size 6 _ 51 (0, 0) B6.out
  have fb6 : w6.frozen? ⟨w3.heap.size, 6, none⟩ = false := frozen_of_row w6 w3.heap.size 6 _ 51 B6.out
  have b7 : w6.cell? ⟨w3.heap.size, 7, none⟩ = some (.int .i64 0) := cell_of_row w6 w3.heap.size 7 _ 51 (0, 0) B6.out
  have fb7 : w6.frozen? ⟨w3.heap.size, 7, none⟩ = false := frozen_of_row w6 w3.heap.size 7 _ 51 B6.out
  have b8 : w6.cell? ⟨w3.heap.size, 8, none⟩ = some (.int .i64 0) := cell_of_row w6 w3.heap.size 8 _ 51 (0, 0) B6.out
  have fb8 : w6.frozen? ⟨w3.heap.size, 8, none⟩ = false := frozen_of_row w6 w3.heap.size 8 _ 51 B6.out
  have b9 : w6.cell? ⟨w3.heap.size, 9, none⟩ = some (.int .i64 0) := cell_of_row w6 w3.heap.size 9 _ 51 (0, 0) B6.out
  have fb9 : w6.frozen? ⟨w3.heap.size, 9, none⟩ = false := frozen_of_row w6 w3.heap.size 9 _ 51 B6.out
  have b10 : w6.cell? ⟨w3.heap.size, 10, none⟩ = some (.int .i64 0) := cell_of_row w6 w3.heap.size 10 _ 51 (0, 0) B6.out
  have fb10 : w6.frozen? ⟨w3.heap.size, 10, none⟩ = false := frozen_of_row w6 w3.heap.size 10 _ 51 B6.out
  obtain ⟨U, hU⟩ : ∃ U, ((((((((w6.setCell ⟨w3.heap.size, 3, none⟩ (.int .i64 n4)).setCell ⟨w3.heap.size, 4, none⟩ (.int .i64 n5)).setCell ⟨w3.heap.size, 5, none⟩ (.int .i64 n6)).setCell ⟨w3.heap.size, 6, none⟩ (.int .i64 0)).setCell ⟨w3.heap.size, 7, none⟩ (.int .i64 0)).setCell ⟨w3.heap.size, 8, none⟩ (.int .i64 0)).setCell ⟨w3.heap.size, 9, none⟩ (.int .i64 0)).setCell ⟨w3.heap.size, 10, none⟩ (.int .i64 0)) = U := ⟨_, rfl⟩
  have BU : Hid (U.heap[w3.heap.size]? = some (.cells #[.int .i64 n1, .int .i64 n2, .int .i64 n3, .int .i64 n4, .int .i64 n5, .int .i64 n6, .int .i64 0, .int .i64 0, .int .i64 0, .int .i64 0, .int .i64 0] 51 (0, 0))) := hide (by
    have q3 := heap_setCell_same w6 w3.heap.size 3 _ 51 (.int .i64 n4) B6.out
    have q4 := heap_setCell_same _ w3.heap.size 4 _ 51 (.int .i64 n5) q3
    have q5 := heap_setCell_same _ w3.heap.size 5 _ 51 (.int .i64 n6) q4
    have q6 := heap_setCell_same _ w3.heap.size 6 _ 51 (.int .i64 0) q5
    have q7 := heap_setCell_same _ w3.heap.size 7 _ 51 (.int .i64 0) q6
    have q8 := heap_setCell_same _ w3.heap.size 8 _ 51 (.int .i64 0) q7
    have q9 := heap_setCell_same _ w3.heap.size 9 _ 51 (.int .i64 0) q8
    have q10 := heap_setCell_same _ w3.heap.size 10 _ 51 (.int .i64 0) q9
    simp only [List.setIfInBounds_toArray, List.set_cons_succ, List.set_cons_zero] at q10
    rw [← hU]
    exact q10)
  have SU : Hid (Sc U g (.slice p n c) a6 E6) := hide (by rw [← hU]; exact (Sc.set_other (Sc.set_other (Sc.set_other (Sc.set_other (Sc.set_other (Sc.set_other (Sc.set_other (Sc.set_other S6.out _ hgb) _ hgb) _ hgb) _ hgb) _ hgb) _ hgb) _ hgb) _ hgb))
  have GU : Hid (w.grownBy U (some g)) := hide (by rw [← hU]; exact (grown_set_new (grown_set_new (grown_set_new (grown_set_new (grown_set_new (grown_set_new (grown_set_new (grown_set_new G6.out (by omega)) (by omega)) (by omega)) (by omega)) (by omega)) (by omega)) (by omega)) (by omega)))
  have RU : Hid (U.heap[w.heap.size]? = some (.cells #[.int .i64 0, .int .i64 0, .int .i64 0, .int .i64 0, .int .i64 0, .int .i64 0, .int .i64 0, .int .i64 0, .int .i64 0, .int .i64 0, .int .i64 0] 51 (0, 0))) := hide (by
    rw [← hU]
    rw [heap_setCell_other _ ⟨w3.heap.size, 10, none⟩ w.heap.size _ (by simpa using hwb), heap_setCell_other _ ⟨w3.heap.size, 9, none⟩ w.heap.size _ (by simpa using hwb), heap_setCell_other _ ⟨w3.heap.size, 8, none⟩ w.heap.size _ (by simpa using hwb), heap_setCell_other _ ⟨w3.heap.size, 7, none⟩ w.heap.size _ (by simpa using hwb), heap_setCell_other _ ⟨w3.heap.size, 6, none⟩ w.heap.size _ (by simpa using hwb), heap_setCell_other _ ⟨w3.heap.size, 5, none⟩ w.heap.size _ (by simpa using hwb), heap_setCell_other _ ⟨w3.heap.size, 4, none⟩ w.heap.size _ (by simpa using hwb), heap_setCell_other _ ⟨w3.heap.size, 3, none⟩ w.heap.size _ (by simpa using hwb)]
    exact R6.out)
  have hzU : w.heap.size < U.heap.size := (Array.getElem?_eq_some_iff.1 RU.out).1
  have hyU : w3.heap.size < U.heap.size := (Array.getElem?_eq_some_iff.1 BU.out).1
  have HU := hide hU
  clear hU
  have k7 := scanNumber_any SU.out (HGB.out _ GU.out) (by have := L6.out; have := HL.out.1; omega) (N := n7) (A := a7) (E := E7) H7.out
  go_wp2_with fail
  rw [HU.out]
  clear b3 b4 b5 b6 b7 b8 b9 b10 fb3 fb4 fb5 fb6 fb7 fb8 fb9 fb10
  refine k7.mono ?_
  rintro e w7 ⟨rfl, hs7, hg7⟩
  have S7 := hide hs7
  have G7 := hide (gtrans GU.out hg7)
  have R7 := hide ((hg7.block w.heap.size hzU (fun e => hgw (by first | exact Option.some.inj e | exact (Option.some.inj e).symm))).trans RU.out)
  have B7 := hide ((hg7.block w3.heap.size hyU (fun e => hgb (by first | exact Option.some.inj e | exact (Option.some.inj e).symm))).trans BU.out)
  have hz7 : w.heap.size < w7.heap.size := Nat.lt_of_lt_of_le hzU hg7.size
  have hy7 : w3.heap.size < w7.heap.size := Nat.lt_of_lt_of_le hyU hg7.size
  clear hs7 hg7 k7
  have k8 := scanNumber_any S7.out (HGB.out _ G7.out) (by have := L7.out; have := HL.out.1; omega) (N := n8) (A := a8) (E := E8) H8.out
  go_wp2_with fail
  refine k8.mono ?_
  rintro e w8 ⟨rfl, hs8, hg8⟩
  have S8 := hide hs8
  have G8 := hide (gtrans G7.out hg8)
  have R8 := hide ((hg8.block w.heap.size hz7 (fun e => hgw (by first | exact Option.some.inj e | exact (Option.some.inj e).symm))).trans R7.out)
  have B8 := hide ((hg8.block w3.heap.size hy7 (fun e => hgb (by first | exact Option.some.inj e | exact (Option.some.inj e).symm))).trans B7.out)
  have hz8 : w.heap.size < w8.heap.size := Nat.lt_of_lt_of_le hz7 hg8.size
  have hy8 : w3.heap.size < w8.heap.size := Nat.lt_of_lt_of_le hy7 hg8.size
  clear hs8 hg8 k8
  have k9 := scanNumber_any S8.out (HGB.out _ G8.out) (by have := L8.out; have := HL.out.1; omega) (N := n9) (A := a9) (E := E9) H9.out
  go_wp2_with fail
  refine k9.mono ?_
  rintro e w9 ⟨rfl, hs9, hg9⟩
  have S9 := hide hs9
  have G9 := hide (gtrans G8.out hg9)
  have R9 := hide ((hg9.block w.heap.size hz8 (fun e => hgw (by first | exact Option.some.inj e | exact (Option.some.inj e).symm))).trans R8.out)
  have B9 := hide ((hg9.block w3.heap.size hy8 (fun e => hgb (by first | exact Option.some.inj e | exact (Option.some.inj e).symm))).trans B8.out)
  have hz9 : w.heap.size < w9.heap.size := Nat.lt_of_lt_of_le hz8 hg9.size
  have hy9 : w3.heap.size < w9.heap.size := Nat.lt_of_lt_of_le hy8 hg9.size
  clear hs9 hg9 k9
  have k10 := scanNumber_any S9.out (HGB.out _ G9.out) (by have := L9.out; have := HL.out.1; omega) (N := n10) (A := a10) (E := E10) H10.out
  go_wp2_with fail
  refine k10.mono ?_
  rintro e w10 ⟨rfl, hs10, hg10⟩
  have S10 := hide hs10
  have G10 := hide (gtrans G9.out hg10)
  have R10 := hide ((hg10.block w.heap.size hz9 (fun e => hgw (by first | exact Option.some.inj e | exact (Option.some.inj e).symm))).trans R9.out)
  have B10 := hide ((hg10.block w3.heap.size hy9 (fun e => hgb (by first | exact Option.some.inj e | exact (Option.some.inj e).symm))).trans B9.out)
  have hz10 : w.heap.size < w10.heap.size := Nat.lt_of_lt_of_le hz9 hg10.size
  have hy10 : w3.heap.size < w10.heap.size := Nat.lt_of_lt_of_le hy9 hg10.size
  clear hs10 hg10 k10
  have k11 := scanNumber_any S10.out (HGB.out _ G10.out) (by have := L10.out; have := HL.out.1; omega) (N := n11) (A := a11) (E := E11) H11.out
  go_wp2_with fail
  refine k11.mono ?_
  rintro e w11 ⟨rfl, hs11, hg11⟩
  have S11 := hide hs11
  have G11 := hide (gtrans G10.out hg11)
  have R11 := hide ((hg11.block w.heap.size hz10 (fun e => hgw (by first | exact Option.some.inj e | exact (Option.some.inj e).symm))).trans R10.out)
  have B11 := hide ((hg11.block w3.heap.size hy10 (fun e => hgb (by first | exact Option.some.inj e | exact (Option.some.inj e).symm))).trans B10.out)
  have hz11 : w.heap.size < w11.heap.size := Nat.lt_of_lt_of_le hz10 hg11.size
  have hy11 : w3.heap.size < w11.heap.size := Nat.lt_of_lt_of_le hy10 hg11.size
  clear hs11 hg11 k11
  have b6 : w11.cell? ⟨w3.heap.size, 6, none⟩ = some (.int .i64 0) := cell_of_row w11 w3.heap.size 6 _ 51 (0, 0) B11.out
  have fb6 : w11.frozen? ⟨w3.heap.size, 6, none⟩ = false := frozen_of_row w11 w3.heap.size 6 _ 51 B11.out
  have b7 : w11.cell? ⟨w3.heap.size, 7, none⟩ = some (.int .i64 0) := cell_of_row w11 w3.heap.size 7 _ 51 (0, 0) B11.out
  have fb7 : w11.frozen? ⟨w3.heap.size, 7, none⟩ = false := frozen_of_row w11 w3.heap.size 7 _ 51 B11.out
  have b8 : w11.cell? ⟨w3.heap.size, 8, none⟩ = some (.int .i64 0) := cell_of_row w11 w3.heap.size 8 _ 51 (0, 0) B11.out
  have fb8 : w11.frozen? ⟨w3.heap.size, 8, none⟩ = false := frozen_of_row w11 w3.heap.size 8 _ 51 B11.out
  have b9 : w11.cell? ⟨w3.heap.size, 9, none⟩ = some (.int .i64 0) := cell_of_row w11 w3.heap.size 9 _ 51 (0, 0) B11.out
  have fb9 : w11.frozen? ⟨w3.heap.size, 9, none⟩ = false := frozen_of_row w11 w3.heap.size 9 _ 51 B11.out
  have b10 : w11.cell? ⟨w3.heap.size, 10, none⟩ = some (.int .i64 0) := cell_of_row w11 w3.heap.size 10 _ 51 (0, 0) B11.out
  have fb10 : w11.frozen? ⟨w3.heap.size, 10, none⟩ = false := frozen_of_row w11 w3.heap.size 10 _ 51 B11.out
  obtain ⟨V, hV⟩ : ∃ V, (((((w11.setCell ⟨w3.heap.size, 6, none⟩ (.int .i64 n7)).setCell ⟨w3.heap.size, 7, none⟩ (.int .i64 n8)).setCell ⟨w3.heap.size, 8, none⟩ (.int .i64 n9)).setCell ⟨w3.heap.size, 9, none⟩ (.int .i64 n10)).setCell ⟨w3.heap.size, 10, none⟩ (.int .i64 n11)) = V := ⟨_, rfl⟩
  have BV : V.heap[w3.heap.size]? = some (.cells #[.int .i64 n1, .int .i64 n2, .int .i64 n3, .int .i64 n4, .int .i64 n5, .int .i64 n6, .int .i64 n7, .int .i64 n8, .int .i64 n9, .int .i64 n10, .int .i64 n11] 51 (0, 0)) := by
    have q6 := heap_setCell_same w11 w3.heap.size 6 _ 51 (.int .i64 n7) B11.out
    have q7 := heap_setCell_same _ w3.heap.size 7 _ 51 (.int .i64 n8) q6
    have q8 := heap_setCell_same _ w3.heap.size 8 _ 51 (.int .i64 n9) q7
    have q9 := heap_setCell_same _ w3.heap.size 9 _ 51 (.int .i64 n10) q8
    have q10 := heap_setCell_same _ w3.heap.size 10 _ 51 (.int .i64 n11) q9
    simp only [List.setIfInBounds_toArray, List.set_cons_succ, List.set_cons_zero] at q10
    rw [← hV]
    exact q10
  have SV : Hid (Sc V g (.slice p n c) a11 E11) := hide (by rw [← hV]; exact ((((S11.out.set_other _ hgb).set_other _ hgb).set_other _ hgb).set_other _ hgb).set_other _ hgb)
  have GV : Hid (w.grownBy V (some g)) := hide (by rw [← hV]; exact grown_set_new (grown_set_new (grown_set_new (grown_set_new (grown_set_new G11.out (by omega)) (by omega)) (by omega)) (by omega)) (by omega))
  have RV : V.heap[w.heap.size]? = some (.cells #[.int .i64 0, .int .i64 0, .int .i64 0, .int .i64 0, .int .i64 0, .int .i64 0, .int .i64 0, .int .i64 0, .int .i64 0, .int .i64 0, .int .i64 0] 51 (0, 0)) := by
    rw [← hV]
    rw [heap_setCell_other _ ⟨w3.heap.size, 10, none⟩ w.heap.size _ (by simpa using hwb), heap_setCell_other _ ⟨w3.heap.size, 9, none⟩ w.heap.size _ (by simpa using hwb), heap_setCell_other _ ⟨w3.heap.size, 8, none⟩ w.heap.size _ (by simpa using hwb), heap_setCell_other _ ⟨w3.heap.size, 7, none⟩ w.heap.size _ (by simpa using hwb), heap_setCell_other _ ⟨w3.heap.size, 6, none⟩ w.heap.size _ (by simpa using hwb)]
    exact R11.out
  have v0 : V.cell? ⟨w3.heap.size, 0, none⟩ = some (.int .i64 n1) := cell_of_row V w3.heap.size 0 _ 51 (0, 0) BV
  have m0 : V.cell? ⟨w.heap.size, 0, none⟩ = some (.int .i64 0) := cell_of_row V w.heap.size 0 _ 51 (0, 0) RV
  have f0 : V.frozen? ⟨w.heap.size, 0, none⟩ = false := frozen_of_row V w.heap.size 0 _ 51 RV
  have v1 : V.cell? ⟨w3.heap.size, 1, none⟩ = some (.int .i64 n2) := cell_of_row V w3.heap.size 1 _ 51 (0, 0) BV
  have m1 : V.cell? ⟨w.heap.size, 1, none⟩ = some (.int .i64 0) := cell_of_row V w.heap.size 1 _ 51 (0, 0) RV
  have f1 : V.frozen? ⟨w.heap.size, 1, none⟩ = false := frozen_of_row V w.heap.size 1 _ 51 RV
  have v2 : V.cell? ⟨w3.heap.size, 2, none⟩ = some (.int .i64 n3) := cell_of_row V w3.heap.size 2 _ 51 (0, 0) BV
  have m2 : V.cell? ⟨w.heap.size, 2, none⟩ = some (.int .i64 0) := cell_of_row V w.heap.size 2 _ 51 (0, 0) RV
  have f2 : V.frozen? ⟨w.heap.size, 2, none⟩ = false := frozen_of_row V w.heap.size 2 _ 51 RV
  have v3 : V.cell? ⟨w3.heap.size, 3, none⟩ = some (.int .i64 n4) := cell_of_row V w3.heap.size 3 _ 51 (0, 0) BV
  have m3 : V.cell? ⟨w.heap.size, 3, none⟩ = some (.int .i64 0) := cell_of_row V w.heap.size 3 _ 51 (0, 0) RV
  have f3 : V.frozen? ⟨w.heap.size, 3, none⟩ = false := frozen_of_row V w.heap.size 3 _ 51 RV
  have v4 : V.cell? ⟨w3.heap.size, 4, none⟩ = some (.int .i64 n5) := cell_of_row V w3.heap.size 4 _ 51 (0, 0) BV
  have m4 : V.cell? ⟨w.heap.size, 4, none⟩ = some (.int .i64 0) := cell_of_row V w.heap.size 4 _ 51 (0, 0) RV
  have f4 : V.frozen? ⟨w.heap.size, 4, none⟩ = false := frozen_of_row V w.heap.size 4 _ 51 RV
  have v5 : V.cell? ⟨w3.heap.size, 5, none⟩ = some (.int .i64 n6) := cell_of_row V w3.heap.size 5 _ 51 (0, 0) BV
  have m5 : V.cell? ⟨w.heap.size, 5, none⟩ = some (.int .i64 0) := cell_of_row V w.heap.size 5 _ 51 (0, 0) RV
  have f5 : V.frozen? ⟨w.heap.size, 5, none⟩ = false := frozen_of_row V w.heap.size 5 _ 51 RV
  have v6 : V.cell? ⟨w3.heap.size, 6, none⟩ = some (.int .i64 n7) := cell_of_row V w3.heap.size 6 _ 51 (0, 0) BV
  have m6 : V.cell? ⟨w.heap.size, 6, none⟩ = some (.int .i64 0) := cell_of_row V w.heap.size 6 _ 51 (0, 0) RV
  have f6 : V.frozen? ⟨w.heap.size, 6, none⟩ = false := frozen_of_row V w.heap.size 6 _ 51 RV
  have v7 : V.cell? ⟨w3.heap.size, 7, none⟩ = some (.int .i64 n8) := cell_of_row V w3.heap.size 7 _ 51 (0, 0) BV
  have m7 : V.cell? ⟨w.heap.size, 7, none⟩ = some (.int .i64 0) := cell_of_row V w.heap.size 7 _ 51 (0, 0) RV
  have f7 : V.frozen? ⟨w.heap.size, 7, none⟩ = false := frozen_of_row V w.heap.size 7 _ 51 RV
  have v8 : V.cell? ⟨w3.heap.size, 8, none⟩ = some (.int .i64 n9) := cell_of_row V w3.heap.size 8 _ 51 (0, 0) BV
  have m8 : V.cell? ⟨w.heap.size, 8, none⟩ = some (.int .i64 0) := cell_of_row V w.heap.size 8 _ 51 (0, 0) RV
  have f8 : V.frozen? ⟨w.heap.size, 8, none⟩ = false := frozen_of_row V w.heap.size 8 _ 51 RV
  have v9 : V.cell? ⟨w3.heap.size, 9, none⟩ = some (.int .i64 n10) := cell_of_row V w3.heap.size 9 _ 51 (0, 0) BV
  have m9 : V.cell? ⟨w.heap.size, 9, none⟩ = some (.int .i64 0) := cell_of_row V w.heap.size 9 _ 51 (0, 0) RV
  have f9 : V.frozen? ⟨w.heap.size, 9, none⟩ = false := frozen_of_row V w.heap.size 9 _ 51 RV
  have v10 : V.cell? ⟨w3.heap.size, 10, none⟩ = some (.int .i64 n11) := cell_of_row V w3.heap.size 10 _ 51 (0, 0) BV
  have m10 : V.cell? ⟨w.heap.size, 10, none⟩ = some (.int .i64 0) := cell_of_row V w.heap.size 10 _ 51 (0, 0) RV
  have f10 : V.frozen? ⟨w.heap.size, 10, none⟩ = false := frozen_of_row V w.heap.size 10 _ 51 RV
  have RVH := hide RV
  clear RV BV
  go_wp2
  have hs9 := set11 V w.heap.size 51 _ _ _ _ _ _ _ _ _ _ _ (.int .i64 n1) (.int .i64 n2) (.int .i64 n3) (.int .i64 n4) (.int .i64 n5) (.int .i64 n6) (.int .i64 n7) (.int .i64 n8) (.int .i64 n9) (.int .i64 n10) (.int .i64 n11) RVH.out
  have hS9 : Sc (((((((((((V.setCell ⟨w.heap.size, 0, none⟩ (.int .i64 n1)).setCell ⟨w.heap.size, 1, none⟩ (.int .i64 n2)).setCell ⟨w.heap.size, 2, none⟩ (.int .i64 n3)).setCell ⟨w.heap.size, 3, none⟩ (.int .i64 n4)).setCell ⟨w.heap.size, 4, none⟩ (.int .i64 n5)).setCell ⟨w.heap.size, 5, none⟩ (.int .i64 n6)).setCell ⟨w.heap.size, 6, none⟩ (.int .i64 n7)).setCell ⟨w.heap.size, 7, none⟩ (.int .i64 n8)).setCell ⟨w.heap.size, 8, none⟩ (.int .i64 n9)).setCell ⟨w.heap.size, 9, none⟩ (.int .i64 n10)).setCell ⟨w.heap.size, 10, none⟩ (.int .i64 n11)) g (.slice p n c) a11 E11 := (Sc.set_other (Sc.set_other (Sc.set_other (Sc.set_other (Sc.set_other (Sc.set_other (Sc.set_other (Sc.set_other (Sc.set_other (Sc.set_other (Sc.set_other SV.out _ hgw) _ hgw) _ hgw) _ hgw) _ hgw) _ hgw) _ hgw) _ hgw) _ hgw) _ hgw) _ hgw)
  have hG9 : w.grownBy (((((((((((V.setCell ⟨w.heap.size, 0, none⟩ (.int .i64 n1)).setCell ⟨w.heap.size, 1, none⟩ (.int .i64 n2)).setCell ⟨w.heap.size, 2, none⟩ (.int .i64 n3)).setCell ⟨w.heap.size, 3, none⟩ (.int .i64 n4)).setCell ⟨w.heap.size, 4, none⟩ (.int .i64 n5)).setCell ⟨w.heap.size, 5, none⟩ (.int .i64 n6)).setCell ⟨w.heap.size, 6, none⟩ (.int .i64 n7)).setCell ⟨w.heap.size, 7, none⟩ (.int .i64 n8)).setCell ⟨w.heap.size, 8, none⟩ (.int .i64 n9)).setCell ⟨w.heap.size, 9, none⟩ (.int .i64 n10)).setCell ⟨w.heap.size, 10, none⟩ (.int .i64 n11)) (some g) := (grown_set_new (grown_set_new (grown_set_new (grown_set_new (grown_set_new (grown_set_new (grown_set_new (grown_set_new (grown_set_new (grown_set_new (grown_set_new GV.out (Nat.le_refl _)) (Nat.le_refl _)) (Nat.le_refl _)) (Nat.le_refl _)) (Nat.le_refl _)) (Nat.le_refl _)) (Nat.le_refl _)) (Nat.le_refl _)) (Nat.le_refl _)) (Nat.le_refl _)) (Nat.le_refl _))
  obtain ⟨W9, hW9⟩ : ∃ W9, (((((((((((V.setCell ⟨w.heap.size, 0, none⟩ (.int .i64 n1)).setCell ⟨w.heap.size, 1, none⟩ (.int .i64 n2)).setCell ⟨w.heap.size, 2, none⟩ (.int .i64 n3)).setCell ⟨w.heap.size, 3, none⟩ (.int .i64 n4)).setCell ⟨w.heap.size, 4, none⟩ (.int .i64 n5)).setCell ⟨w.heap.size, 5, none⟩ (.int .i64 n6)).setCell ⟨w.heap.size, 6, none⟩ (.int .i64 n7)).setCell ⟨w.heap.size, 7, none⟩ (.int .i64 n8)).setCell ⟨w.heap.size, 8, none⟩ (.int .i64 n9)).setCell ⟨w.heap.size, 9, none⟩ (.int .i64 n10)).setCell ⟨w.heap.size, 10, none⟩ (.int .i64 n11)) = W9 := ⟨_, rfl⟩
  rw [hW9] at hs9 hS9 hG9 ⊢
  clear hW9
  have n0_ : W9.cell? ⟨w.heap.size, 0, none⟩ = some (.int .i64 n1) := cell_of_row W9 w.heap.size 0 _ 51 (0, 0) hs9
  have n1_ : W9.cell? ⟨w.heap.size, 1, none⟩ = some (.int .i64 n2) := cell_of_row W9 w.heap.size 1 _ 51 (0, 0) hs9
  have n2_ : W9.cell? ⟨w.heap.size, 2, none⟩ = some (.int .i64 n3) := cell_of_row W9 w.heap.size 2 _ 51 (0, 0) hs9
  have n3_ : W9.cell? ⟨w.heap.size, 3, none⟩ = some (.int .i64 n4) := cell_of_row W9 w.heap.size 3 _ 51 (0, 0) hs9
  have n4_ : W9.cell? ⟨w.heap.size, 4, none⟩ = some (.int .i64 n5) := cell_of_row W9 w.heap.size 4 _ 51 (0, 0) hs9
  have n5_ : W9.cell? ⟨w.heap.size, 5, none⟩ = some (.int .i64 n6) := cell_of_row W9 w.heap.size 5 _ 51 (0, 0) hs9
  have n6_ : W9.cell? ⟨w.heap.size, 6, none⟩ = some (.int .i64 n7) := cell_of_row W9 w.heap.size 6 _ 51 (0, 0) hs9
  have n7_ : W9.cell? ⟨w.heap.size, 7, none⟩ = some (.int .i64 n8) := cell_of_row W9 w.heap.size 7 _ 51 (0, 0) hs9
  have n8_ : W9.cell? ⟨w.heap.size, 8, none⟩ = some (.int .i64 n9) := cell_of_row W9 w.heap.size 8 _ 51 (0, 0) hs9
  have n9_ : W9.cell? ⟨w.heap.size, 9, none⟩ = some (.int .i64 n10) := cell_of_row W9 w.heap.size 9 _ 51 (0, 0) hs9
  have n10_ : W9.cell? ⟨w.heap.size, 10, none⟩ = some (.int .i64 n11) := cell_of_row W9 w.heap.size 10 _ 51 (0, 0) hs9
  have hz9 : w.heap.size < W9.heap.size := lt_of_cell n0_
  clear hs9
  refine bodyPost_ret (v := .agg #[.int .i64 n1, .int .i64 n2, .int .i64 n3, .int .i64 n4, .int .i64 n5, .int .i64 n6, .int .i64 n7, .int .i64 n8, .int .i64 n9, .int .i64 n10, .int .i64 n11]) (by simp [results, Try.results18, go_sem, n0_, n1_, n2_, n3_, n4_, n5_, n6_, n7_, n8_, n9_, n10_, hz9]) rfl ⟨rfl, hS9, hG9⟩
end Go.Proofs.Ytfbndbmhnpleoaa
