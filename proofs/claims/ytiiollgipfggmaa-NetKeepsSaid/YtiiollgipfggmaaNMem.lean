/- Messages in memory. -/
import Derived.Test.YtiiollgipfggmaaNPure
import Derived.Test.YtiiollgipfggmaaLed
namespace Go.Proofs.Ytiiollgipfggmaa
set_option linter.unusedVariables false
set_option linter.unusedSimpArgs false
open Go.RowKit

/-- A message as a value. -/
def msA (m : Ms) (ve vv vd : Value) : Value := .agg #[.int .i64 m.k, .int .i64 m.f, .int .i64 m.t, .int .i64 m.tm, .int .i64 m.ix, .int .i64 m.lt, .int .i64 m.cm, .int .i64 m.rd, .bool m.ys, .bool m.dn, ve, vv, vd]
/-- A message's slices. -/
structure MsV (w : World) (m : Ms) (ve vv vd : Value) : Prop where
  es : Ens w ve m.es
  vs : Ns w vv m.vs
  d : By w vd m.d
  fits : m.Fits
theorem MsV.below {w w' : World} {m : Ms} {ve vv vd : Value} (h : MsV w m ve vv vd) (hb : Below w.heap.size w w') : MsV w' m ve vv vd := ⟨h.es.below hb, h.vs.below hb, h.d.below hb, h.fits⟩
/-- A box of thirteen cells. -/
structure Box13 (W : World) (g : Nat) (a0 a1 a2 a3 a4 a5 a6 a7 a8 a9 a10 a11 a12 : Value) : Prop where
  c0 : W.cell? ⟨g, 0, none⟩ = some a0
  c1 : W.cell? ⟨g, 1, none⟩ = some a1
  c2 : W.cell? ⟨g, 2, none⟩ = some a2
  c3 : W.cell? ⟨g, 3, none⟩ = some a3
  c4 : W.cell? ⟨g, 4, none⟩ = some a4
  c5 : W.cell? ⟨g, 5, none⟩ = some a5
  c6 : W.cell? ⟨g, 6, none⟩ = some a6
  c7 : W.cell? ⟨g, 7, none⟩ = some a7
  c8 : W.cell? ⟨g, 8, none⟩ = some a8
  c9 : W.cell? ⟨g, 9, none⟩ = some a9
  c10 : W.cell? ⟨g, 10, none⟩ = some a10
  c11 : W.cell? ⟨g, 11, none⟩ = some a11
  c12 : W.cell? ⟨g, 12, none⟩ = some a12
theorem Box13.of_row {W : World} {g : Nat} {T : TypeId} {a0 a1 a2 a3 a4 a5 a6 a7 a8 a9 a10 a11 a12 : Value} (h : W.heap[g]? = some (.cells #[a0, a1, a2, a3, a4, a5, a6, a7, a8, a9, a10, a11, a12] T (0, 0))) : Box13 W g a0 a1 a2 a3 a4 a5 a6 a7 a8 a9 a10 a11 a12 :=
  ⟨cell_of_row W g 0 _ T (0, 0) h, cell_of_row W g 1 _ T (0, 0) h, cell_of_row W g 2 _ T (0, 0) h, cell_of_row W g 3 _ T (0, 0) h, cell_of_row W g 4 _ T (0, 0) h, cell_of_row W g 5 _ T (0, 0) h, cell_of_row W g 6 _ T (0, 0) h, cell_of_row W g 7 _ T (0, 0) h, cell_of_row W g 8 _ T (0, 0) h, cell_of_row W g 9 _ T (0, 0) h, cell_of_row W g 10 _ T (0, 0) h, cell_of_row W g 11 _ T (0, 0) h, cell_of_row W g 12 _ T (0, 0) h⟩
theorem Box13.new (w : World) (T : TypeId) (a0 a1 a2 a3 a4 a5 a6 a7 a8 a9 a10 a11 a12 : Value) : Box13 (w.alloc (.cells #[a0, a1, a2, a3, a4, a5, a6, a7, a8, a9, a10, a11, a12] T)) w.heap.size a0 a1 a2 a3 a4 a5 a6 a7 a8 a9 a10 a11 a12 := Box13.of_row (heap_alloc_new w _)
theorem Box13.below {W W' : World} {g : Nat} {a0 a1 a2 a3 a4 a5 a6 a7 a8 a9 a10 a11 a12 : Value} (h : Box13 W g a0 a1 a2 a3 a4 a5 a6 a7 a8 a9 a10 a11 a12) (hb : Below W.heap.size W W') : Box13 W' g a0 a1 a2 a3 a4 a5 a6 a7 a8 a9 a10 a11 a12 :=
  ⟨(hb.cell (lt_of_cell h.c0)).trans h.c0, (hb.cell (lt_of_cell h.c1)).trans h.c1, (hb.cell (lt_of_cell h.c2)).trans h.c2, (hb.cell (lt_of_cell h.c3)).trans h.c3, (hb.cell (lt_of_cell h.c4)).trans h.c4, (hb.cell (lt_of_cell h.c5)).trans h.c5, (hb.cell (lt_of_cell h.c6)).trans h.c6, (hb.cell (lt_of_cell h.c7)).trans h.c7, (hb.cell (lt_of_cell h.c8)).trans h.c8, (hb.cell (lt_of_cell h.c9)).trans h.c9, (hb.cell (lt_of_cell h.c10)).trans h.c10, (hb.cell (lt_of_cell h.c11)).trans h.c11, (hb.cell (lt_of_cell h.c12)).trans h.c12⟩

set_option maxRecDepth 100000 in
set_option maxHeartbeats 1000000 in
theorem isNode_any (n : Int) (hf : fits n) (w : World) : Calls Try.prog 89 #[.int .i64 n] w fun e w' => e = .returned (.bool (isN n)) ∧ Below w.heap.size w w' := by
  have hb : Below w.heap.size w (w.alloc (.cells #[.int .i64 n] 3)) := (Below.refl _ _).alloc (Nat.le_refl _) _
  have hN : Ns (w.alloc (.cells #[.int .i64 n] 3)) (.slice (some ⟨w.heap.size, 0, none⟩) 1 1) [n] := by
    refine ⟨_, 1, rfl, Nat.le_refl _, by decide, (fun e => by cases e), (by intro x hx; simp at hx; subst hx; exact hf), fun _ => ⟨_, 0, rfl, fun i x hi => ?_⟩⟩
    cases i with
    | zero => simp at hi; subst hi; rw [cell_of_row _ w.heap.size _ _ _ (0, 0) (heap_alloc_new w _)]; rfl
    | succ i => simp at hi
  have HC := hide (check_any hN)
  have HB := hide hb
  have HX : Hid ((chkI [n] == 0) = isN n) := hide (by
    unfold chkI okR okFrom okFrom isN
    simp only [List.isEmpty_cons, Bool.not_false, Bool.true_and, Bool.and_true]
    by_cases h : 0 ≤ n <;> by_cases h' : n < 7 <;> simp [h, h'])
  obtain ⟨q, hq⟩ : ∃ q, chkI [n] = q := ⟨_, rfl⟩
  unfold Chk at HC
  rw [hq] at HC HX
  clear hN hb hq
  go_enter Try.func89, Try.ntmps89
  go_wp2_with fail
  refine HC.out.mono ?_
  rintro e w1 ⟨rfl, rfl⟩
  go_wp2
  go_ret
  exact ⟨ret_b HX.out.symm, HB.out⟩
end Go.Proofs.Ytiiollgipfggmaa
