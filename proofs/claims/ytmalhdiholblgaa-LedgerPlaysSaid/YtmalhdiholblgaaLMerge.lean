/- What entries of others bring: agrees, passes. -/
import Derived.Test.YtmalhdiholblgaaLHint
namespace Go.Proofs.Ytmalhdiholblgaa
set_option linter.unusedVariables false
set_option linter.unusedSimpArgs false
open Go.RowKit

def agreesI (x : Lg) (i t : Int) : Bool := (x.at_ i).2 && ((x.at_ i).1 == t)
theorem agrees_any {w : World} {g : Nat} {x : Lg} (h : LgIs w g x) (i t : Int) : Calls Try.prog 32 #[.pointer (some ⟨g, 0, none⟩), .agg #[.int .i64 i, .int .i64 t]] w fun e w' => e = .returned (.bool (agreesI x i t)) ∧ Below w.heap.size w w' := by
  have b1 : Below w.heap.size w (w.alloc (.cells #[.int .i64 i, .int .i64 t] 66)) := (Below.refl _ _).alloc (Nat.le_refl _) _
  have hX := Box2.new w i t 66
  have h1 := h.below b1
  obtain ⟨Y, hY⟩ : ∃ Y, w.alloc (.cells #[.int .i64 i, .int .i64 t] 66) = Y := ⟨_, rfl⟩
  rw [hY] at b1 hX h1
  have HT := hide (term_any h1 i)
  have HX0 : Hid (agreesI x i t = ((x.at_ i).2 && ((x.at_ i).1 == t))) := hide rfl
  obtain ⟨a, ha⟩ : ∃ a, (x.at_ i).1 = a := ⟨_, rfl⟩
  obtain ⟨q, hq⟩ : ∃ q, (x.at_ i).2 = q := ⟨_, rfl⟩
  rw [ha, hq] at HT HX0
  obtain ⟨f0, f1, f2, f3⟩ := hX
  have HX1 : Hid (Box2 Y w.heap.size i t) := hide ⟨f0, f1, f2, f3⟩
  have HB := hide b1
  obtain ⟨q2, e2⟩ : ∃ q, (a == t) = q := ⟨_, rfl⟩
  rw [e2] at HX0
  clear h h1 b1 ha hq
  go_enter Try.func32, Try.ntmps32
  go_wp2_with fail
  refine HT.out.mono ?_
  rintro e w2 ⟨rfl, hb2⟩
  have HB2 := hide (HB.out.trans (hb2.mono HB.out.size))
  have HX2 := hide (HX1.out.below hb2)
  clear hb2 f0 f1 f2 f3
  obtain ⟨f0, f1, f2, f3⟩ := HX2.out
  cases q
  · go_wp2
    go_ret
    exact ⟨ret_b HX0.out, HB2.out⟩
  · cases q2
    all_goals
      go_wp2
      go_ret
      exact ⟨ret_b HX0.out, HB2.out⟩

def passI (x : Lg) (i t : Int) : Bool := decide (i ≤ x.ix) || agreesI x i t
set_option maxRecDepth 100000 in
set_option maxHeartbeats 2000000 in
theorem passes_any {w : World} {g : Nat} {x : Lg} (h : LgIs w g x) (i t : Int) (pd : Option Addr) (nd cd : Nat) : Calls Try.prog 39 #[.pointer (some ⟨g, 0, none⟩), .agg #[.int .i64 i, .int .i64 t, .slice pd nd cd]] w fun e w' => e = .returned (.bool (passI x i t)) ∧ Below w.heap.size w w' := by
  have b1 : Below w.heap.size w (w.alloc (.cells #[.int .i64 i, .int .i64 t, .slice pd nd cd] 48)) := (Below.refl _ _).alloc (Nat.le_refl _) _
  have hN0 : EcAt (w.alloc (.cells #[.int .i64 i, .int .i64 t, .slice pd nd cd] 48)) w.heap.size 0 ⟨i, t, pd, nd, cd⟩ := fun j u hj => by
    rw [Nat.zero_add, cell_of_row _ w.heap.size _ _ _ (0, 0) (heap_alloc_new w _)]
    simpa [ecC] using hj
  have h1 := h.below b1
  obtain ⟨Y, hY⟩ : ∃ Y, w.alloc (.cells #[.int .i64 i, .int .i64 t, .slice pd nd cd] 48) = Y := ⟨_, rfl⟩
  rw [hY] at b1 hN0 h1
  have HB := hide b1
  have z0 := hN0.c0
  have z1 := hN0.c1
  have z2 := hN0.c2
  rw [Nat.zero_add] at z1 z2
  dsimp only at z0 z1 z2
  have d0 := h1.c0
  have HX0 : Hid (passI x i t = (decide (i ≤ x.ix) || agreesI x i t)) := hide rfl
  have HAG : Hid (∀ V, Below Y.heap.size Y V → Calls Try.prog 32 #[.pointer (some ⟨g, 0, none⟩), .agg #[.int .i64 i, .int .i64 t]] V fun e w' => e = .returned (.bool (agreesI x i t)) ∧ Below V.heap.size V w') := hide fun V hV => agrees_any (h1.below hV) i t
  have HEO : Hid (∀ V, Calls Try.prog 49 #[.agg #[.int .i64 i, .int .i64 t, .slice pd nd cd]] V fun e w' => e = .returned (.agg #[.int .i64 i, .int .i64 t]) ∧ Below V.heap.size V w') := hide fun V => endOf_any
  have kp : ∀ V, Below Y.heap.size Y V → V.cell? ⟨w.heap.size, 0, none⟩ = some (.int .i64 i) ∧ V.cell? ⟨w.heap.size, 1, none⟩ = some (.int .i64 t) ∧ V.cell? ⟨w.heap.size, 2, none⟩ = some (.slice pd nd cd) ∧ V.cell? ⟨g, 0, none⟩ = some (.int .i64 x.ix) := fun V hV => ⟨(hV.cell (lt_of_cell z0)).trans z0, (hV.cell (lt_of_cell z1)).trans z1, (hV.cell (lt_of_cell z2)).trans z2, (hV.cell (lt_of_cell d0)).trans d0⟩
  have KEEP := hide kp
  clear h h1 b1 hN0 kp
  obtain ⟨q1, hq1⟩ : ∃ q, agreesI x i t = q := ⟨_, rfl⟩
  rw [hq1] at HAG HX0
  clear hq1
  by_cases hle : i ≤ x.ix
  · have e1 : decide (i ≤ x.ix) = true := by simpa using hle
    have HX : Hid (passI x i t = true) := hide (by rw [HX0.out, e1]; rfl)
    clear HX0 hle
    go_enter Try.func39, Try.ntmps39
    go_wp2_with fail
    go_quiet (fail)
    go_wp2
    go_ret
    exact ⟨ret_b HX.out, bel_drewN HB.out _⟩
  · have e1 : decide (i ≤ x.ix) = false := by simpa using hle
    have HX : Hid (passI x i t = q1) := hide (by rw [HX0.out, e1]; rfl)
    clear HX0 hle
    go_enter Try.func39, Try.ntmps39
    go_wp2_with fail
    go_region_held3 (fun V => V.cell? ⟨w.heap.size, 0, none⟩ = some (.int .i64 i) ∧ V.cell? ⟨w.heap.size, 1, none⟩ = some (.int .i64 t) ∧ V.cell? ⟨w.heap.size, 2, none⟩ = some (.slice pd nd cd) ∧ V.cell? ⟨g, 0, none⟩ = some (.int .i64 x.ix)) (first | go_keep | exact KEEP.out _ HB3.out | exact KEEP.out _ HB2.out)
      ((first
        | (go_at_call 49; (refine (HEO.out _).mono ?_); rintro e9 w2 ⟨rfl, hb2⟩; have HB2 : Hid (Below Y.heap.size Y w2) := hide ((bel_drewN (Below.refl _ Y) 1).trans hb2); clear hb2)
        | (go_at_call 32; (refine (HAG.out _ (by first | exact HB2.out | exact bel_drewN HB2.out _)).mono ?_); rintro e9 w3 ⟨rfl, hb3⟩; have HB3 : Hid (Below Y.heap.size Y w3) := hide (HB2.out.trans (hb3.mono HB2.out.size)); clear hb3)))
    go_wp2
    go_ret
    exact ⟨ret_b HX.out, HB.out.trans (HB3.out.mono HB.out.size)⟩
end Go.Proofs.Ytmalhdiholblgaa
