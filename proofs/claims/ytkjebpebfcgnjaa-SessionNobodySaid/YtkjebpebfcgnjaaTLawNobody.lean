/- The law SessionNobody. -/
import Derived.Test.YtkjebpebfcgnjaaTNo
import Derived.Test.YtkjebpebfcgnjaaTLawChecks
import Derived.Test.YtkjebpebfcgnjaaTArg
namespace Go.Proofs.Ytkjebpebfcgnjaa
set_option linter.unusedVariables false
set_option linter.unusedSimpArgs false
open Go.RowKit

set_option maxRecDepth 200000 in
set_option maxHeartbeats 4000000 in
theorem lawNobody_any (w : World) (x : Dt) : Calls Try.prog 10 #[dtV x] w (LawPost w) := by
  have hneq : ∀ W, (binOp .neq 34 (.agg #[.int .i64 0, .int .i64 0, .int .i64 0, .int .i64 0, .int .i64 0, .int .i64 0, .int .i64 0, .int .i64 0]) (.agg #[.int .i64 0, .int .i64 0, .int .i64 0, .int .i64 0, .int .i64 0, .int .i64 0, .int .i64 0, .int .i64 0])).run Try.prog W = .ok (.bool false) W := fun W => by
    have := rp_neqB rp0 rp0 W
    rw [decide_eq_true rfl] at this
    exact this
  obtain ⟨op, s, q, a, ⟨e1, e2, e3, e4, e5, e6, e7, e8⟩⟩ := x
  unfold dtV
  dsimp only
  obtain ⟨x1, hx1⟩ : ∃ x1, x1 = w.alloc (.cells #[.int .i64 op, .int .i64 s, .int .i64 q, .int .i64 a, .int .i64 e1, .int .i64 e2, .int .i64 e3, .int .i64 e4, .int .i64 e5, .int .i64 e6, .int .i64 e7, .int .i64 e8] 36) := ⟨_, rfl⟩
  obtain ⟨x2, hx2⟩ : ∃ x2, x2 = x1.alloc (.cells #[.map none] 67) := ⟨_, rfl⟩
  obtain ⟨X, hX⟩ : ∃ X, X = ((w.alloc (.cells #[.int .i64 op, .int .i64 s, .int .i64 q, .int .i64 a, .int .i64 e1, .int .i64 e2, .int .i64 e3, .int .i64 e4, .int .i64 e5, .int .i64 e6, .int .i64 e7, .int .i64 e8] 36)).alloc (.cells #[.map none] 67)).alloc (.cells #[.pointer none, .pointer (some ⟨w.heap.size + 1, 0, none⟩)] 24) := ⟨_, rfl⟩
  have hX2 : X = x2.alloc (.cells #[.pointer none, .pointer (some ⟨w.heap.size + 1, 0, none⟩)] 24) := by rw [hX, hx2, hx1]
  have s1 : x1.heap.size = w.heap.size + 1 := by rw [hx1]; simp
  have s2 : x2.heap.size = w.heap.size + 1 + 1 := by rw [hx2]; simp; omega
  have s3 : X.heap.size = w.heap.size + 1 + 1 + 1 := by rw [hX2]; simp; omega
  have b1 : Below w.heap.size w x1 := by rw [hx1]; exact (Below.refl _ _).alloc (Nat.le_refl _) _
  have b2 : Below x1.heap.size x1 x2 := by rw [hx2]; exact (Below.refl _ _).alloc (Nat.le_refl _) _
  have b3 : Below x2.heap.size x2 X := by rw [hX2]; exact (Below.refl _ _).alloc (Nat.le_refl _) _
  have hd : DtAt X w.heap.size 0 ⟨op, s, q, a, ⟨e1, e2, e3, e4, e5, e6, e7, e8⟩⟩ := by
    have h1 : DtAt x1 w.heap.size 0 ⟨op, s, q, a, ⟨e1, e2, e3, e4, e5, e6, e7, e8⟩⟩ := fun k u hk => by
      rw [hx1, World.cell?_alloc_new, Nat.zero_add]
      unfold dtC at hk
      simpa using hk
    exact (h1.below b2).below b3
  have a0 : X.cell? ⟨w.heap.size + 1 + 1, 0, none⟩ = some (.pointer none) := by rw [hX2, ← s2, World.cell?_alloc_new]; rfl
  have a1 : X.cell? ⟨w.heap.size + 1 + 1, 1, none⟩ = some (.pointer (some ⟨w.heap.size + 1, 0, none⟩)) := by rw [hX2, ← s2, World.cell?_alloc_new]; rfl
  have d0 : X.cell? ⟨w.heap.size + 1, 0, none⟩ = some (.map none) := (b3.cell (p := ⟨w.heap.size + 1, 0, none⟩) (by show w.heap.size + 1 < x2.heap.size; omega)).trans (by rw [hx2, ← s1, World.cell?_alloc_new]; rfl)
  have HBX : Hid (Below w.heap.size w X) := hide ((b1.trans (b2.mono b1.size)).trans (b3.mono (by omega)))
  have HD : Hid (∀ V, Below X.heap.size X V → ∀ (k : Nat) u, (dtC ⟨op, s, q, a, ⟨e1, e2, e3, e4, e5, e6, e7, e8⟩⟩)[k]? = some u → V.cell? ⟨w.heap.size, k, none⟩ = some u) := hide fun V hV k u hk => by
    have := hd.below hV k u hk
    rwa [Nat.zero_add] at this
  have NO0 : Hid (∀ V, Below X.heap.size X V → NoT V (.pointer none)) := hide fun V hV => .inl rfl
  have NO1 : Hid (∀ V, Below X.heap.size X V → NoT V (.pointer (some ⟨w.heap.size + 1, 0, none⟩))) := hide fun V hV => NoT.below (.inr ⟨_, rfl, d0⟩) hV
  have HWX : Hid (w.heap.size < X.heap.size) := hide (by omega)
  have HXA := hide (And.intro a0 a1)
  have hg2 : w.heap.size + 1 + 1 < X.heap.size := by omega
  clear b1 b2 b3 hx1 hx2 hX2 s1 s2 s3 hd d0 x1 x2
  have HX := hide hX
  clear hX a0 a1
  go_enter Try.func10, Try.ntmps10
  go_wp2_with fail
  rw [← HX.out]
  go_loopw [12] (fun i wr => ∃ j : Nat, j ≤ 2 ∧ i = .int .i64 j ∧ Below X.heap.size X wr) (fun i _ => 2 - (intOf i).toNat)
  case atStart => exact ⟨0, by omega, rfl, Below.refl _ _⟩
  case round =>
    obtain ⟨j, hj, rfl, hc⟩ := hrel
    have b0 := (hc.cell (p := ⟨w.heap.size + 1 + 1, 0, none⟩) hg2).trans HXA.out.1
    have b1 := (hc.cell (p := ⟨w.heap.size + 1 + 1, 1, none⟩) hg2).trans HXA.out.2
    have HC := hide hc
    clear hc
    rcases (show j = 0 ∨ j = 1 ∨ j = 2 by omega) with rfl | rfl | rfl
    · have N0 := NO0.out _ HC.out
      have hd := HD.out _ HC.out
      have z0 : wr.cell? ⟨w.heap.size, 0, none⟩ = some (.int .i64 op) := hd 0 _ rfl
      have z1 : wr.cell? ⟨w.heap.size, 1, none⟩ = some (.int .i64 s) := hd 1 _ rfl
      have z2 : wr.cell? ⟨w.heap.size, 2, none⟩ = some (.int .i64 q) := hd 2 _ rfl
      have z3 : wr.cell? ⟨w.heap.size, 3, none⟩ = some (.int .i64 a) := hd 3 _ rfl
      have z4 : wr.cell? ⟨w.heap.size, 4, none⟩ = some (.int .i64 e1) := hd 4 _ rfl
      have z5 : wr.cell? ⟨w.heap.size, 5, none⟩ = some (.int .i64 e2) := hd 5 _ rfl
      have z6 : wr.cell? ⟨w.heap.size, 6, none⟩ = some (.int .i64 e3) := hd 6 _ rfl
      have z7 : wr.cell? ⟨w.heap.size, 7, none⟩ = some (.int .i64 e4) := hd 7 _ rfl
      have z8 : wr.cell? ⟨w.heap.size, 8, none⟩ = some (.int .i64 e5) := hd 8 _ rfl
      have z9 : wr.cell? ⟨w.heap.size, 9, none⟩ = some (.int .i64 e6) := hd 9 _ rfl
      have z10 : wr.cell? ⟨w.heap.size, 10, none⟩ = some (.int .i64 e7) := hd 10 _ rfl
      have z11 : wr.cell? ⟨w.heap.size, 11, none⟩ = some (.int .i64 e8) := hd 11 _ rfl
      go_wp2_with fail
      have hk := ask_no N0 s q
      unfold rpV rp0 at hk
      dsimp only at hk
      refine hk.mono ?_
      rintro e w1 ⟨rfl, hb1⟩
      have C1 := hide (HC.out.trans (hb1.mono HC.out.size))
      have hlt1 : w.heap.size < w1.heap.size := by have := HWX.out; have := C1.out.size; omega
      have hne1 : w.heap.size ≠ w1.heap.size := by omega
      have B1 := hide (C1.out.alloc C1.out.size (.cells #[.int .i64 0, .int .i64 0, .int .i64 0, .int .i64 0, .int .i64 0, .int .i64 0, .int .i64 0, .int .i64 0] 34))
      clear z0 z1 z2 z3 z4 z5 z6 z7 z8 z9 z10 z11
      have hd := HD.out _ C1.out
      have y0 : w1.cell? ⟨w.heap.size, 0, none⟩ = some (.int .i64 op) := hd 0 _ rfl
      have y1 : w1.cell? ⟨w.heap.size, 1, none⟩ = some (.int .i64 s) := hd 1 _ rfl
      have y2 : w1.cell? ⟨w.heap.size, 2, none⟩ = some (.int .i64 q) := hd 2 _ rfl
      have y3 : w1.cell? ⟨w.heap.size, 3, none⟩ = some (.int .i64 a) := hd 3 _ rfl
      have y4 : w1.cell? ⟨w.heap.size, 4, none⟩ = some (.int .i64 e1) := hd 4 _ rfl
      have y5 : w1.cell? ⟨w.heap.size, 5, none⟩ = some (.int .i64 e2) := hd 5 _ rfl
      have y6 : w1.cell? ⟨w.heap.size, 6, none⟩ = some (.int .i64 e3) := hd 6 _ rfl
      have y7 : w1.cell? ⟨w.heap.size, 7, none⟩ = some (.int .i64 e4) := hd 7 _ rfl
      have y8 : w1.cell? ⟨w.heap.size, 8, none⟩ = some (.int .i64 e5) := hd 8 _ rfl
      have y9 : w1.cell? ⟨w.heap.size, 9, none⟩ = some (.int .i64 e6) := hd 9 _ rfl
      have y10 : w1.cell? ⟨w.heap.size, 10, none⟩ = some (.int .i64 e7) := hd 10 _ rfl
      have y11 : w1.cell? ⟨w.heap.size, 11, none⟩ = some (.int .i64 e8) := hd 11 _ rfl
      clear hk hb1 N0
      go_wp2_with fail
      refine (open_no (NO0.out _ B1.out) a).mono ?_
      rintro e w2 ⟨rfl, hb2⟩
      have C2 := hide (B1.out.trans (hb2.mono B1.out.size))
      clear y0 y1 y2 y3 y4 y5 y6 y7 y8 y9 y10 y11
      have hd := HD.out _ C2.out
      have x0 : w2.cell? ⟨w.heap.size, 0, none⟩ = some (.int .i64 op) := hd 0 _ rfl
      have x1 : w2.cell? ⟨w.heap.size, 1, none⟩ = some (.int .i64 s) := hd 1 _ rfl
      have x2 : w2.cell? ⟨w.heap.size, 2, none⟩ = some (.int .i64 q) := hd 2 _ rfl
      have x3 : w2.cell? ⟨w.heap.size, 3, none⟩ = some (.int .i64 a) := hd 3 _ rfl
      have x4 : w2.cell? ⟨w.heap.size, 4, none⟩ = some (.int .i64 e1) := hd 4 _ rfl
      have x5 : w2.cell? ⟨w.heap.size, 5, none⟩ = some (.int .i64 e2) := hd 5 _ rfl
      have x6 : w2.cell? ⟨w.heap.size, 6, none⟩ = some (.int .i64 e3) := hd 6 _ rfl
      have x7 : w2.cell? ⟨w.heap.size, 7, none⟩ = some (.int .i64 e4) := hd 7 _ rfl
      have x8 : w2.cell? ⟨w.heap.size, 8, none⟩ = some (.int .i64 e5) := hd 8 _ rfl
      have x9 : w2.cell? ⟨w.heap.size, 9, none⟩ = some (.int .i64 e6) := hd 9 _ rfl
      have x10 : w2.cell? ⟨w.heap.size, 10, none⟩ = some (.int .i64 e7) := hd 10 _ rfl
      have x11 : w2.cell? ⟨w.heap.size, 11, none⟩ = some (.int .i64 e8) := hd 11 _ rfl
      clear hb2
      go_wp2_with fail
      have hk := keep_no (NO0.out _ C2.out) s q a ⟨e1, e2, e3, e4, e5, e6, e7, e8⟩
      unfold rpV at hk
      dsimp only at hk
      refine hk.mono ?_
      rintro e w3 ⟨rfl, hb3⟩
      have C3 := hide (C2.out.trans (hb3.mono C2.out.size))
      clear x0 x1 x2 x3 x4 x5 x6 x7 x8 x9 x10 x11
      have v3 : w3.cell? ⟨w.heap.size, 3, none⟩ = some (.int .i64 a) := HD.out _ C3.out 3 _ rfl
      clear hb3 hk
      go_wp2_with fail
      refine (expire_no (NO0.out _ C3.out) a).mono ?_
      rintro e w4 ⟨rfl, hb4⟩
      have C4 := hide (C3.out.trans (hb4.mono C3.out.size))
      clear hb4
      go_wp2_with fail
      refine (seats_no (NO0.out _ C4.out)).mono ?_
      rintro e w5 ⟨rfl, hb5⟩
      have C5 := hide (C4.out.trans (hb5.mono C4.out.size))
      clear hb5
      go_wp2_with fail
      refine (image_no (NO0.out _ C5.out)).mono ?_
      rintro e w6 ⟨rfl, hb6⟩
      have C6 := hide (C5.out.trans (hb6.mono C5.out.size))
      clear hb6
      go_wp2_with fail
      refine (clone_no (NO0.out _ C6.out)).mono ?_
      rintro e w7 ⟨rfl, hb7⟩
      have C7 := hide (C6.out.trans (hb7.mono C6.out.size))
      clear hb7
      go_wp2
      go_roundw
      case rel => exact ⟨1, by omega, by go_num, C7.out⟩
      case measure => simp [intOf]
    · have N0 := NO1.out _ HC.out
      have hd := HD.out _ HC.out
      have z0 : wr.cell? ⟨w.heap.size, 0, none⟩ = some (.int .i64 op) := hd 0 _ rfl
      have z1 : wr.cell? ⟨w.heap.size, 1, none⟩ = some (.int .i64 s) := hd 1 _ rfl
      have z2 : wr.cell? ⟨w.heap.size, 2, none⟩ = some (.int .i64 q) := hd 2 _ rfl
      have z3 : wr.cell? ⟨w.heap.size, 3, none⟩ = some (.int .i64 a) := hd 3 _ rfl
      have z4 : wr.cell? ⟨w.heap.size, 4, none⟩ = some (.int .i64 e1) := hd 4 _ rfl
      have z5 : wr.cell? ⟨w.heap.size, 5, none⟩ = some (.int .i64 e2) := hd 5 _ rfl
      have z6 : wr.cell? ⟨w.heap.size, 6, none⟩ = some (.int .i64 e3) := hd 6 _ rfl
      have z7 : wr.cell? ⟨w.heap.size, 7, none⟩ = some (.int .i64 e4) := hd 7 _ rfl
      have z8 : wr.cell? ⟨w.heap.size, 8, none⟩ = some (.int .i64 e5) := hd 8 _ rfl
      have z9 : wr.cell? ⟨w.heap.size, 9, none⟩ = some (.int .i64 e6) := hd 9 _ rfl
      have z10 : wr.cell? ⟨w.heap.size, 10, none⟩ = some (.int .i64 e7) := hd 10 _ rfl
      have z11 : wr.cell? ⟨w.heap.size, 11, none⟩ = some (.int .i64 e8) := hd 11 _ rfl
      go_wp2_with fail
      have hk := ask_no N0 s q
      unfold rpV rp0 at hk
      dsimp only at hk
      refine hk.mono ?_
      rintro e w1 ⟨rfl, hb1⟩
      have C1 := hide (HC.out.trans (hb1.mono HC.out.size))
      have hlt1 : w.heap.size < w1.heap.size := by have := HWX.out; have := C1.out.size; omega
      have hne1 : w.heap.size ≠ w1.heap.size := by omega
      have B1 := hide (C1.out.alloc C1.out.size (.cells #[.int .i64 0, .int .i64 0, .int .i64 0, .int .i64 0, .int .i64 0, .int .i64 0, .int .i64 0, .int .i64 0] 34))
      clear z0 z1 z2 z3 z4 z5 z6 z7 z8 z9 z10 z11
      have hd := HD.out _ C1.out
      have y0 : w1.cell? ⟨w.heap.size, 0, none⟩ = some (.int .i64 op) := hd 0 _ rfl
      have y1 : w1.cell? ⟨w.heap.size, 1, none⟩ = some (.int .i64 s) := hd 1 _ rfl
      have y2 : w1.cell? ⟨w.heap.size, 2, none⟩ = some (.int .i64 q) := hd 2 _ rfl
      have y3 : w1.cell? ⟨w.heap.size, 3, none⟩ = some (.int .i64 a) := hd 3 _ rfl
      have y4 : w1.cell? ⟨w.heap.size, 4, none⟩ = some (.int .i64 e1) := hd 4 _ rfl
      have y5 : w1.cell? ⟨w.heap.size, 5, none⟩ = some (.int .i64 e2) := hd 5 _ rfl
      have y6 : w1.cell? ⟨w.heap.size, 6, none⟩ = some (.int .i64 e3) := hd 6 _ rfl
      have y7 : w1.cell? ⟨w.heap.size, 7, none⟩ = some (.int .i64 e4) := hd 7 _ rfl
      have y8 : w1.cell? ⟨w.heap.size, 8, none⟩ = some (.int .i64 e5) := hd 8 _ rfl
      have y9 : w1.cell? ⟨w.heap.size, 9, none⟩ = some (.int .i64 e6) := hd 9 _ rfl
      have y10 : w1.cell? ⟨w.heap.size, 10, none⟩ = some (.int .i64 e7) := hd 10 _ rfl
      have y11 : w1.cell? ⟨w.heap.size, 11, none⟩ = some (.int .i64 e8) := hd 11 _ rfl
      clear hk hb1 N0
      go_wp2_with fail
      refine (open_no (NO1.out _ B1.out) a).mono ?_
      rintro e w2 ⟨rfl, hb2⟩
      have C2 := hide (B1.out.trans (hb2.mono B1.out.size))
      clear y0 y1 y2 y3 y4 y5 y6 y7 y8 y9 y10 y11
      have hd := HD.out _ C2.out
      have x0 : w2.cell? ⟨w.heap.size, 0, none⟩ = some (.int .i64 op) := hd 0 _ rfl
      have x1 : w2.cell? ⟨w.heap.size, 1, none⟩ = some (.int .i64 s) := hd 1 _ rfl
      have x2 : w2.cell? ⟨w.heap.size, 2, none⟩ = some (.int .i64 q) := hd 2 _ rfl
      have x3 : w2.cell? ⟨w.heap.size, 3, none⟩ = some (.int .i64 a) := hd 3 _ rfl
      have x4 : w2.cell? ⟨w.heap.size, 4, none⟩ = some (.int .i64 e1) := hd 4 _ rfl
      have x5 : w2.cell? ⟨w.heap.size, 5, none⟩ = some (.int .i64 e2) := hd 5 _ rfl
      have x6 : w2.cell? ⟨w.heap.size, 6, none⟩ = some (.int .i64 e3) := hd 6 _ rfl
      have x7 : w2.cell? ⟨w.heap.size, 7, none⟩ = some (.int .i64 e4) := hd 7 _ rfl
      have x8 : w2.cell? ⟨w.heap.size, 8, none⟩ = some (.int .i64 e5) := hd 8 _ rfl
      have x9 : w2.cell? ⟨w.heap.size, 9, none⟩ = some (.int .i64 e6) := hd 9 _ rfl
      have x10 : w2.cell? ⟨w.heap.size, 10, none⟩ = some (.int .i64 e7) := hd 10 _ rfl
      have x11 : w2.cell? ⟨w.heap.size, 11, none⟩ = some (.int .i64 e8) := hd 11 _ rfl
      clear hb2
      go_wp2_with fail
      have hk := keep_no (NO1.out _ C2.out) s q a ⟨e1, e2, e3, e4, e5, e6, e7, e8⟩
      unfold rpV at hk
      dsimp only at hk
      refine hk.mono ?_
      rintro e w3 ⟨rfl, hb3⟩
      have C3 := hide (C2.out.trans (hb3.mono C2.out.size))
      clear x0 x1 x2 x3 x4 x5 x6 x7 x8 x9 x10 x11
      have v3 : w3.cell? ⟨w.heap.size, 3, none⟩ = some (.int .i64 a) := HD.out _ C3.out 3 _ rfl
      clear hb3 hk
      go_wp2_with fail
      refine (expire_no (NO1.out _ C3.out) a).mono ?_
      rintro e w4 ⟨rfl, hb4⟩
      have C4 := hide (C3.out.trans (hb4.mono C3.out.size))
      clear hb4
      go_wp2_with fail
      refine (seats_no (NO1.out _ C4.out)).mono ?_
      rintro e w5 ⟨rfl, hb5⟩
      have C5 := hide (C4.out.trans (hb5.mono C4.out.size))
      clear hb5
      go_wp2_with fail
      refine (image_no (NO1.out _ C5.out)).mono ?_
      rintro e w6 ⟨rfl, hb6⟩
      have C6 := hide (C5.out.trans (hb6.mono C5.out.size))
      clear hb6
      go_wp2_with fail
      refine (clone_no (NO1.out _ C6.out)).mono ?_
      rintro e w7 ⟨rfl, hb7⟩
      have C7 := hide (C6.out.trans (hb7.mono C6.out.size))
      clear hb7
      go_wp2
      go_roundw
      case rel => exact ⟨2, by omega, by go_num, C7.out⟩
      case measure => simp [intOf]
    · go_wp2_with fail
      refine (awake_any wr).mono ?_
      rintro e w2 ⟨rfl, hb⟩
      go_wp2
      go_ret
      exact ⟨rfl, HBX.out.trans ((HC.out.trans (hb.mono HC.out.size)).mono HBX.out.size)⟩
end Go.Proofs.Ytkjebpebfcgnjaa
