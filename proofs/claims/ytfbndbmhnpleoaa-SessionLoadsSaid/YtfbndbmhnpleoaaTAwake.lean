/- A table of a law's own; awake. -/
import Derived.Test.YtfbndbmhnpleoaaTSeats2
import Derived.Test.YtfbndbmhnpleoaaTEq
namespace Go.Proofs.Ytfbndbmhnpleoaa
set_option linter.unusedVariables false
set_option linter.unusedSimpArgs false
open Go.RowKit

/-- A table that was made behind w0, and nothing that was there has changed since. -/
structure TbOwn (w0 : World) (g b : Nat) (w : World) (L : List St) : Prop where
  tb : TbIs w g b L
  gl : w0.heap.size ≤ g
  bl : w0.heap.size ≤ b
  below : Below w0.heap.size w0 w
theorem TbOwn.new {w w' : World} (h : TbIs w' (w.heap.size + 1) w.heap.size []) (hb : Below w.heap.size w w') : TbOwn w (w.heap.size + 1) w.heap.size w' [] := ⟨h, by omega, Nat.le_refl _, hb⟩
theorem TbOwn.mk' {w0 w w' : World} (hb0 : Below w0.heap.size w0 w) (h : TbIs w' (w.heap.size + 1) w.heap.size []) (hb : Below w.heap.size w w') : TbOwn w0 (w.heap.size + 1) w.heap.size w' [] := ⟨h, by have := hb0.size; omega, hb0.size, hb0.trans (hb.mono hb0.size)⟩
theorem TbOwn.tab {w0 w w' : World} {g b : Nat} {L L' : List St} (h : TbOwn w0 g b w L) (h' : TbIs w' g b L') (hc : Chg w w' (fun k => k = b)) : TbOwn w0 g b w' L' :=
  ⟨h', h.gl, h.bl, Chg.to_below h.below hc (fun k e => by rw [e]; exact h.bl)⟩
theorem TbOwn.bel {w0 w w' : World} {g b : Nat} {L : List St} (h : TbOwn w0 g b w L) (hb : Below w.heap.size w w') : TbOwn w0 g b w' L :=
  ⟨h.tb.below hb, h.gl, h.bl, h.below.trans (hb.mono h.below.size)⟩
theorem TbOwn.alloc {w0 w : World} {g b : Nat} {L : List St} (h : TbOwn w0 g b w L) (o : Obj) : TbOwn w0 g b (w.alloc o) L := h.bel ((Below.refl _ _).alloc (Nat.le_refl _) o)
theorem TbOwn.drew {w0 w : World} {g b : Nat} {L : List St} (h : TbOwn w0 g b w L) (q : Nat) : TbOwn w0 g b (w.drewN q) L := h.bel (bdrew w q)

def aw1 : List St := [⟨5, 0, 5, rp0⟩]
def aw2 : List St := [⟨5, 1, 7, ⟨0, 0, 2, 0, 0, 0, 0, 0⟩⟩]
set_option maxRecDepth 200000 in
theorem aw_steps : openT [] 5 = (0, aw1) ∧ keepT aw1 5 1 7 ⟨0, 0, 2, 0, 0, 0, 0, 0⟩ = (0, aw2) ∧ askT aw2 5 1 = (⟨0, 0, 2, 0, 0, 0, 0, 0⟩, true, 0) ∧ askT aw2 5 3 = (rp0, false, 82) ∧ expT aw2 8 = [] := by
  refine ⟨?_, ?_, ?_, ?_, ?_⟩
  all_goals decide

set_option maxRecDepth 200000 in
set_option maxHeartbeats 4000000 in
theorem awake_any (w : World) : Calls Try.prog 4 #[] w fun e w' => e = .returned (.bool true) ∧ Below w.heap.size w w' := by
  have heq : ∀ W, (binOp .eql 41 (.agg #[.int .i64 0, .int .i64 0, .int .i64 2, .int .i64 0, .int .i64 0, .int .i64 0, .int .i64 0, .int .i64 0]) (.agg #[.int .i64 0, .int .i64 0, .int .i64 2, .int .i64 0, .int .i64 0, .int .i64 0, .int .i64 0, .int .i64 0])).run Try.prog W = .ok (.bool true) W := fun W => by
    have := rp_eql ⟨0, 0, 2, 0, 0, 0, 0, 0⟩ ⟨0, 0, 2, 0, 0, 0, 0, 0⟩ W
    rw [decide_eq_true rfl] at this
    exact this
  go_enter Try.func4, Try.ntmps4
  go_wp2_with fail
  refine (new_any w).mono ?_
  rintro e w1 ⟨rfl, h1, hb1⟩
  have T1 := hide (TbOwn.new h1 hb1)
  obtain ⟨g, hg⟩ : ∃ g, w.heap.size + 1 = g := ⟨_, rfl⟩
  obtain ⟨b, hb⟩ : ∃ b, w.heap.size = b := ⟨_, rfl⟩
  rw [hg] at T1 ⊢
  clear h1 hb1
  have T1' : Hid (TbOwn w g b w1 []) := hide (by rw [← hb]; exact T1.out)
  have HB := hide hb
  clear T1 hb hg
  have k1 : Calls Try.prog 11 #[.pointer (some ⟨g, 0, none⟩), .int .i64 5] w1 (TabPost w1 g b 0 aw1) := by
    have := open_any T1'.out.tb (n := 5) (wf40 (by omega) (by omega))
    rwa [aw_steps.1] at this
  go_wp2_with fail
  refine k1.mono ?_
  rintro e w2 ⟨rfl, h2, hc2⟩
  have T2 := hide (T1'.out.tab h2 hc2)
  clear k1 h2 hc2
  have k2 : Calls Try.prog 12 #[.pointer (some ⟨g, 0, none⟩), .int .i64 5, .int .i64 1, .int .i64 7, .agg #[.int .i64 0, .int .i64 0, .int .i64 2, .int .i64 0, .int .i64 0, .int .i64 0, .int .i64 0, .int .i64 0]] w2 (TabPost w2 g b 0 aw2) := by
    have := keep_any T2.out.tb (n := 5) (m := 1) (a := 7) (r := ⟨0, 0, 2, 0, 0, 0, 0, 0⟩) (wf40 (by omega) (by omega)) (by omega) (by omega)
    rwa [aw_steps.2.1] at this
  go_wp2_with fail
  refine k2.mono ?_
  rintro e w3 ⟨rfl, h3, hc3⟩
  have T3 := hide (T2.out.tab h3 hc3)
  clear k2 h3 hc3
  have k3 : Calls Try.prog 13 #[.pointer (some ⟨g, 0, none⟩), .int .i64 5, .int .i64 1] w3 fun e w' => e = .returned (.tuple #[.agg #[.int .i64 0, .int .i64 0, .int .i64 2, .int .i64 0, .int .i64 0, .int .i64 0, .int .i64 0, .int .i64 0], .bool true, .int .i64 0]) ∧ Below w3.heap.size w3 w' := by
    have := ask_any T3.out.tb (n := 5) (m := 1) (wf40 (by omega) (by omega)) (by omega) (by omega)
    rwa [aw_steps.2.2.1] at this
  go_wp2_with fail
  refine k3.mono ?_
  rintro e w4 ⟨rfl, hb4⟩
  have T4 := hide (T3.out.bel hb4)
  clear k3 hb4
  obtain ⟨A, hA⟩ : ∃ A, w4.alloc (.cells #[.int .i64 0, .int .i64 0, .int .i64 2, .int .i64 0, .int .i64 0, .int .i64 0, .int .i64 0, .int .i64 0] 41) = A := ⟨_, rfl⟩
  have TA : Hid (TbOwn w g b A aw2) := hide (by rw [← hA]; exact T4.out.alloc _)
  have hzA : w4.heap.size < A.heap.size := by rw [← hA]; simp
  have hcA : ∀ i v, #[Value.int .i64 0, .int .i64 0, .int .i64 2, .int .i64 0, .int .i64 0, .int .i64 0, .int .i64 0, .int .i64 0][i]? = some v → A.cell? ⟨w4.heap.size, i, none⟩ = some v := fun i v hi => by rw [← hA, World.cell?_alloc_new]; exact hi
  have k4 : Calls Try.prog 13 #[.pointer (some ⟨g, 0, none⟩), .int .i64 5, .int .i64 3] A fun e w' => e = .returned (.tuple #[.agg #[.int .i64 0, .int .i64 0, .int .i64 0, .int .i64 0, .int .i64 0, .int .i64 0, .int .i64 0, .int .i64 0], .bool false, .int .i64 82]) ∧ Below A.heap.size A w' := by
    have := ask_any TA.out.tb (n := 5) (m := 3) (wf40 (by omega) (by omega)) (by omega) (by omega)
    rwa [aw_steps.2.2.2.1] at this
  have HA := hide hA
  clear hA
  go_wp2_with fail
  rw [HA.out]
  refine k4.mono ?_
  rintro e w5 ⟨rfl, hb5⟩
  have T5 := hide (TA.out.bel hb5)
  have hc5 : ∀ i v, #[Value.int .i64 0, .int .i64 0, .int .i64 2, .int .i64 0, .int .i64 0, .int .i64 0, .int .i64 0, .int .i64 0][i]? = some v → w5.cell? ⟨w4.heap.size, i, none⟩ = some v := fun i v hi => (hb5.cell (p := ⟨w4.heap.size, i, none⟩) hzA).trans (hcA i v hi)
  have hz5 : w4.heap.size < w5.heap.size := Nat.lt_of_lt_of_le hzA hb5.size
  clear k4 hb5 hcA
  obtain ⟨B, hB⟩ : ∃ B, w5.alloc (.cells #[.int .i64 0, .int .i64 0, .int .i64 0, .int .i64 0, .int .i64 0, .int .i64 0, .int .i64 0, .int .i64 0] 41) = B := ⟨_, rfl⟩
  have TB : Hid (TbOwn w g b B aw2) := hide (by rw [← hB]; exact T5.out.alloc _)
  have z0 : w5.cell? ⟨w4.heap.size, 0, none⟩ = some (.int .i64 0) := hc5 0 _ rfl
  have z1 : w5.cell? ⟨w4.heap.size, 1, none⟩ = some (.int .i64 0) := hc5 1 _ rfl
  have z2 : w5.cell? ⟨w4.heap.size, 2, none⟩ = some (.int .i64 2) := hc5 2 _ rfl
  have z3 : w5.cell? ⟨w4.heap.size, 3, none⟩ = some (.int .i64 0) := hc5 3 _ rfl
  have z4 : w5.cell? ⟨w4.heap.size, 4, none⟩ = some (.int .i64 0) := hc5 4 _ rfl
  have z5 : w5.cell? ⟨w4.heap.size, 5, none⟩ = some (.int .i64 0) := hc5 5 _ rfl
  have z6 : w5.cell? ⟨w4.heap.size, 6, none⟩ = some (.int .i64 0) := hc5 6 _ rfl
  have z7 : w5.cell? ⟨w4.heap.size, 7, none⟩ = some (.int .i64 0) := hc5 7 _ rfl
  have hne5 : w4.heap.size ≠ w5.heap.size := by omega
  clear hc5
  have k5 : Calls Try.prog 14 #[.pointer (some ⟨g, 0, none⟩), .int .i64 8] B (TabPost B g b 1 []) := by
    have := expire_any TB.out.tb 8
    rwa [aw_steps.2.2.2.2] at this
  have HB2 := hide hB
  clear hB
  go_wp2_with fail
  rw [HB2.out]
  refine k5.mono ?_
  rintro e w6 ⟨rfl, h6, hc6⟩
  have T6 := hide (TB.out.tab h6 hc6)
  clear k5 h6 hc6
  go_wp2_with fail
  refine (seats_any T6.out.tb).mono ?_
  rintro e w7 ⟨v, rfl, ho7, hb7⟩
  obtain ⟨p, n, c, rfl⟩ := ho7.sts.sl
  obtain rfl : n = 0 := ho7.sts.len.1
  have T7 := hide (T6.out.bel hb7)
  clear ho7 hb7
  go_wp2
  go_ret
  exact ⟨by rfl, T7.out.below⟩
end Go.Proofs.Ytfbndbmhnpleoaa
