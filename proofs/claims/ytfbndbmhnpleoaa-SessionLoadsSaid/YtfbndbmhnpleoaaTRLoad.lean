/- The document's Load. -/
import Derived.Test.YtfbndbmhnpleoaaTRlPure
import Derived.Test.YtfbndbmhnpleoaaTTell
import Derived.Deep.QuietTactic
namespace Go.Proofs.Ytfbndbmhnpleoaa
set_option linter.unusedVariables false
set_option linter.unusedSimpArgs false
open Go.RowKit

/-- What the document's Load answers. -/
def RlPost (w : World) : Option (List St) → Ending → World → Prop
  | some L, e, w' => ∃ gx v, e = .returned (.tuple #[.pointer (some ⟨gx, 0, none⟩), .int .i64 0]) ∧ RtAt w' gx v L ∧ w.heap.size ≤ gx ∧ Below w.heap.size w w'
  | none, e, w' => e = .returned (.tuple #[.pointer none, .int .i64 83]) ∧ Below w.heap.size w w'

set_option maxRecDepth 200000 in
set_option maxHeartbeats 8000000 in
theorem refLoad_any {w : World} {p : Option Addr} {n c : Nat} {l : List UInt8} (hv : By w (.slice p n c) l) (hl : l.length ≤ 1000000) : Calls Try.prog 7 #[.slice p n c] w (RlPost w (loadT l)) := by
  have HV := hide hv
  have HN := hide hv.len.1
  have HLL := hide hl
  obtain ⟨A, hA⟩ : ∃ A, w.alloc (.cells #[.slice p n c, .int .i64 0, .int .i64 0] 60) = A := ⟨_, rfl⟩
  have HBA : Hid (Below w.heap.size w A) := hide (by rw [← hA]; exact (Below.refl _ _).alloc (Nat.le_refl _) _)
  have HSA : Hid (Sr A w.heap.size (.slice p n c) 0 0) := hide (by rw [← hA]; exact heap_alloc_new w _)
  have hga : w.heap.size < A.heap.size := by rw [← hA]; simp
  obtain ⟨g, hg⟩ : ∃ g, w.heap.size = g := ⟨_, rfl⟩
  rw [hg] at hga HSA
  obtain ⟨N, a0, E0, h0⟩ : ∃ n a E, nx l (0, 0) = (n, a, E) := ⟨_, _, _, rfl⟩
  have HR0 := hide (RlOk.zero l)
  have hN : ldN l = N := by unfold ldN; rw [h0]
  have hN63 : (N : Int) ≤ 9223372036854775807 := by have := ldN_lt l; rw [hN] at this; omega
  rw [h0] at HR0
  dsimp only at HR0
  have k1 := hide (refScanNumber_any HSA.out (hv.below HBA.out) (Nat.zero_le _) (N := N) (A := a0) (E := E0) h0)
  have HNN := hide hN
  have HA := hide (And.intro hA hg)
  clear hv hl h0 hA hg hN
  go_enter Try.func7, Try.ntmps7
  go_wp2_with fail
  rw [HA.out.1, HA.out.2]
  refine k1.out.mono ?_
  rintro e w1 ⟨rfl, hs1, hg1⟩
  have HG := HA.out.2
  obtain ⟨gx, hgx⟩ : ∃ gx, w1.heap.size = gx := ⟨_, rfl⟩
  obtain ⟨X, hX⟩ : ∃ X, w1.alloc (.cells #[.slice none 0 0] 62) = X := ⟨_, rfl⟩
  have hb1 : Below w.heap.size w w1 := HBA.out.grown hg1 HBA.out.size (fun k hk => by injection hk with hk; omega)
  have HX : Hid (Sr X g (.slice p n c) a0 E0 ∧ RtAt X gx (.slice none 0 0) [] ∧ Below w.heap.size w X) := hide (by
    rw [← hX, ← hgx]
    have hb := (Below.refl w1.heap.size w1).alloc (Nat.le_refl _) (.cells #[.slice none 0 0] 62)
    exact ⟨(hb.block g hs1.lt).trans hs1, ⟨heap_alloc_new w1 _, OwnT.nil _ _⟩, hb1.alloc hb1.size _⟩)
  have hgl : w.heap.size ≤ g := by omega
  have hgxg : g < gx := by have := hs1.lt; omega
  have HGL2 : Hid (w.heap.size ≤ gx) := hide (by omega)
  have HXX := hide (And.intro hX hgx)
  clear hX hgx hs1 hg1 hb1 HG
  go_wp2
  rw [HXX.out.1, HXX.out.2]
  go_loopw [7] (fun i wr => ∃ (k : Nat) (L : List St) (st : Nat × Nat) (v : Value), k ≤ N ∧ k ≤ 9 ∧ i = .int .i64 k ∧ Hid (RlOk l k L st ∧ Sr wr g (.slice p n c) st.1 st.2 ∧ RtAt wr gx v L ∧ Below w.heap.size w wr)) (fun i _ => 9 - (intOf i).toNat)
  case atStart => exact ⟨0, [], (a0, E0), _, by omega, by omega, rfl, hide ⟨HR0.out, HX.out.1, HX.out.2.1, HX.out.2.2⟩⟩
  case round =>
    obtain ⟨k, L, st, v, hk, hk9, rfl, HR⟩ := hrel
    by_cases hlt : k < N
    · by_cases hlt9 : k < 9
      · obtain ⟨a_, E_⟩ := st
        obtain ⟨n1, a1, E1, h1⟩ : ∃ n a E, nx l (a_, E_) = (n, a, E) := ⟨_, _, _, rfl⟩
        obtain ⟨n2, a2, E2, h2⟩ : ∃ n a E, nx l (a1, E1) = (n, a, E) := ⟨_, _, _, rfl⟩
        obtain ⟨n3, a3, E3, h3⟩ : ∃ n a E, nx l (a2, E2) = (n, a, E) := ⟨_, _, _, rfl⟩
        obtain ⟨n4, a4, E4, h4⟩ : ∃ n a E, nx l (a3, E3) = (n, a, E) := ⟨_, _, _, rfl⟩
        obtain ⟨n5, a5, E5, h5⟩ : ∃ n a E, nx l (a4, E4) = (n, a, E) := ⟨_, _, _, rfl⟩
        obtain ⟨n6, a6, E6, h6⟩ : ∃ n a E, nx l (a5, E5) = (n, a, E) := ⟨_, _, _, rfl⟩
        obtain ⟨n7, a7, E7, h7⟩ : ∃ n a E, nx l (a6, E6) = (n, a, E) := ⟨_, _, _, rfl⟩
        obtain ⟨n8, a8, E8, h8⟩ : ∃ n a E, nx l (a7, E7) = (n, a, E) := ⟨_, _, _, rfl⟩
        obtain ⟨n9, a9, E9, h9⟩ : ∃ n a E, nx l (a8, E8) = (n, a, E) := ⟨_, _, _, rfl⟩
        obtain ⟨n10, a10, E10, h10⟩ : ∃ n a E, nx l (a9, E9) = (n, a, E) := ⟨_, _, _, rfl⟩
        obtain ⟨n11, a11, E11, h11⟩ : ∃ n a E, nx l (a10, E10) = (n, a, E) := ⟨_, _, _, rfl⟩
        have HNX : Hid (nextT l (a_, E_) = ((⟨n1, n2, n3, ⟨n4, n5, n6, n7, n8, n9, n10, n11⟩⟩ : St), a11, E11)) := hide (by
          unfold nextT
          simp only [h1, h2, h3, h4, h5, h6, h7, h8, h9, h10, h11])
        have l0 : a_ ≤ l.length := HR.out.1.at_
        have l1 : a1 ≤ l.length := by have := (nx_le (l := l) (st := (a_, E_)) (by dsimp only; omega)).1; rw [h1] at this; exact this
        have m1 : (n1 : Int) ≤ 9223372036854775807 := by have := (nx_le (l := l) (st := (a_, E_)) (by dsimp only; omega)).2; rw [h1] at this; dsimp only at this; omega
        have l2 : a2 ≤ l.length := by have := (nx_le (l := l) (st := (a1, E1)) (by dsimp only; omega)).1; rw [h2] at this; exact this
        have m2 : (n2 : Int) ≤ 9223372036854775807 := by have := (nx_le (l := l) (st := (a1, E1)) (by dsimp only; omega)).2; rw [h2] at this; dsimp only at this; omega
        have l3 : a3 ≤ l.length := by have := (nx_le (l := l) (st := (a2, E2)) (by dsimp only; omega)).1; rw [h3] at this; exact this
        have m3 : (n3 : Int) ≤ 9223372036854775807 := by have := (nx_le (l := l) (st := (a2, E2)) (by dsimp only; omega)).2; rw [h3] at this; dsimp only at this; omega
        have l4 : a4 ≤ l.length := by have := (nx_le (l := l) (st := (a3, E3)) (by dsimp only; omega)).1; rw [h4] at this; exact this
        have m4 : (n4 : Int) ≤ 9223372036854775807 := by have := (nx_le (l := l) (st := (a3, E3)) (by dsimp only; omega)).2; rw [h4] at this; dsimp only at this; omega
        have l5 : a5 ≤ l.length := by have := (nx_le (l := l) (st := (a4, E4)) (by dsimp only; omega)).1; rw [h5] at this; exact this
        have m5 : (n5 : Int) ≤ 9223372036854775807 := by have := (nx_le (l := l) (st := (a4, E4)) (by dsimp only; omega)).2; rw [h5] at this; dsimp only at this; omega
        have l6 : a6 ≤ l.length := by have := (nx_le (l := l) (st := (a5, E5)) (by dsimp only; omega)).1; rw [h6] at this; exact this
        have m6 : (n6 : Int) ≤ 9223372036854775807 := by have := (nx_le (l := l) (st := (a5, E5)) (by dsimp only; omega)).2; rw [h6] at this; dsimp only at this; omega
        have l7 : a7 ≤ l.length := by have := (nx_le (l := l) (st := (a6, E6)) (by dsimp only; omega)).1; rw [h7] at this; exact this
        have m7 : (n7 : Int) ≤ 9223372036854775807 := by have := (nx_le (l := l) (st := (a6, E6)) (by dsimp only; omega)).2; rw [h7] at this; dsimp only at this; omega
        have l8 : a8 ≤ l.length := by have := (nx_le (l := l) (st := (a7, E7)) (by dsimp only; omega)).1; rw [h8] at this; exact this
        have m8 : (n8 : Int) ≤ 9223372036854775807 := by have := (nx_le (l := l) (st := (a7, E7)) (by dsimp only; omega)).2; rw [h8] at this; dsimp only at this; omega
        have l9 : a9 ≤ l.length := by have := (nx_le (l := l) (st := (a8, E8)) (by dsimp only; omega)).1; rw [h9] at this; exact this
        have m9 : (n9 : Int) ≤ 9223372036854775807 := by have := (nx_le (l := l) (st := (a8, E8)) (by dsimp only; omega)).2; rw [h9] at this; dsimp only at this; omega
        have l10 : a10 ≤ l.length := by have := (nx_le (l := l) (st := (a9, E9)) (by dsimp only; omega)).1; rw [h10] at this; exact this
        have m10 : (n10 : Int) ≤ 9223372036854775807 := by have := (nx_le (l := l) (st := (a9, E9)) (by dsimp only; omega)).2; rw [h10] at this; dsimp only at this; omega
        have l11 : a11 ≤ l.length := by have := (nx_le (l := l) (st := (a10, E10)) (by dsimp only; omega)).1; rw [h11] at this; exact this
        have m11 : (n11 : Int) ≤ 9223372036854775807 := by have := (nx_le (l := l) (st := (a10, E10)) (by dsimp only; omega)).2; rw [h11] at this; dsimp only at this; omega
        have H1 := hide (And.intro h1 l0)
        clear h1
        have H2 := hide (And.intro h2 l1)
        clear h2
        have H3 := hide (And.intro h3 l2)
        clear h3
        have H4 := hide (And.intro h4 l3)
        clear h4
        have H5 := hide (And.intro h5 l4)
        clear h5
        have H6 := hide (And.intro h6 l5)
        clear h6
        have H7 := hide (And.intro h7 l6)
        clear h7
        have H8 := hide (And.intro h8 l7)
        clear h8
        have H9 := hide (And.intro h9 l8)
        clear h9
        have H10 := hide (And.intro h10 l9)
        clear h10
        have H11 := hide (And.intro h11 l10)
        clear h11
        clear l0 l1 l2 l3 l4 l5 l6 l7 l8 l9 l10 l11
        obtain ⟨z, hz⟩ : ∃ z, wr.heap.size = z := ⟨_, rfl⟩
        obtain ⟨Z, hZ⟩ : ∃ Z, wr.alloc (.cells #[.int .i64 0, .int .i64 0, .int .i64 0, .int .i64 0, .int .i64 0, .int .i64 0, .int .i64 0, .int .i64 0, .int .i64 0, .int .i64 0, .int .i64 0] 51) = Z := ⟨_, rfl⟩
        have R0 : Hid (Rd w g gx z (.slice p n c) v L a_ E_ #[.int .i64 0, .int .i64 0, .int .i64 0, .int .i64 0, .int .i64 0, .int .i64 0, .int .i64 0, .int .i64 0, .int .i64 0, .int .i64 0, .int .i64 0] Z) := hide (by
          rw [← hZ, ← hz]
          have hb := (Below.refl wr.heap.size wr).alloc (Nat.le_refl _) (.cells #[.int .i64 0, .int .i64 0, .int .i64 0, .int .i64 0, .int .i64 0, .int .i64 0, .int .i64 0, .int .i64 0, .int .i64 0, .int .i64 0, .int .i64 0] 51)
          have hs := HR.out.2.1
          have hx := HR.out.2.2.1
          have h1 := hs.lt
          have h2 := hx.lt
          have h3 := HR.out.2.2.2.size
          exact ⟨(hb.block g h1).trans hs, hx.below hb, heap_alloc_new wr _, HR.out.2.2.2.alloc h3 _, by omega, by omega, by omega, hgl, h3, fun e => by have := (hx.own.lt _ e).1; omega, fun e => by have := (hx.own.lt _ e).2; omega⟩)
        have HZ := hide (And.intro hZ hz)
        clear hZ hz
        have k1' := hide (R0.out.call HV.out H1.out.2 H1.out.1)
        go_wp2_with fail
        rw [HZ.out.1, HZ.out.2]
        refine k1'.out.mono ?_
        rintro e w1 ⟨rfl, r1⟩
        have R1 := hide r1
        have b1 : w1.cell? ⟨z, 0, none⟩ = some (.int .i64 0) := cell_of_row w1 z 0 _ 51 (0, 0) R1.out.zz
        have fb1 : w1.frozen? ⟨z, 0, none⟩ = false := frozen_of_row w1 z 0 _ 51 R1.out.zz
        obtain ⟨Y1, hY1⟩ : ∃ Y, w1.setCell ⟨z, 0, none⟩ (.int .i64 n1) = Y := ⟨_, rfl⟩
        have Q1 : Hid (Rd w g gx z (.slice p n c) v L a1 E1 #[.int .i64 n1, .int .i64 0, .int .i64 0, .int .i64 0, .int .i64 0, .int .i64 0, .int .i64 0, .int .i64 0, .int .i64 0, .int .i64 0, .int .i64 0] Y1) := hide (by
          have q := R1.out.put 0 (.int .i64 n1)
          simp only [List.setIfInBounds_toArray, List.set_cons_succ, List.set_cons_zero] at q
          rw [← hY1]
          exact q)
        have HY1 := hide hY1
        clear r1 hY1
        have k2' := hide (Q1.out.call HV.out H2.out.2 H2.out.1)
        go_wp2_with fail
        rw [HY1.out]
        refine k2'.out.mono ?_
        clear b1 fb1
        rintro e w2 ⟨rfl, r2⟩
        have R2 := hide r2
        have b2 : w2.cell? ⟨z, 1, none⟩ = some (.int .i64 0) := cell_of_row w2 z 1 _ 51 (0, 0) R2.out.zz
        have fb2 : w2.frozen? ⟨z, 1, none⟩ = false := frozen_of_row w2 z 1 _ 51 R2.out.zz
        obtain ⟨Y2, hY2⟩ : ∃ Y, w2.setCell ⟨z, 1, none⟩ (.int .i64 n2) = Y := ⟨_, rfl⟩
        have Q2 : Hid (Rd w g gx z (.slice p n c) v L a2 E2 #[.int .i64 n1, .int .i64 n2, .int .i64 0, .int .i64 0, .int .i64 0, .int .i64 0, .int .i64 0, .int .i64 0, .int .i64 0, .int .i64 0, .int .i64 0] Y2) := hide (by
          have q := R2.out.put 1 (.int .i64 n2)
          simp only [List.setIfInBounds_toArray, List.set_cons_succ, List.set_cons_zero] at q
          rw [← hY2]
          exact q)
        have HY2 := hide hY2
        clear r2 hY2
        have k3' := hide (Q2.out.call HV.out H3.out.2 H3.out.1)
        go_wp2_with fail
        rw [HY2.out]
        refine k3'.out.mono ?_
        clear b2 fb2
        rintro e w3 ⟨rfl, r3⟩
        have R3 := hide r3
        have b3 : w3.cell? ⟨z, 2, none⟩ = some (.int .i64 0) := cell_of_row w3 z 2 _ 51 (0, 0) R3.out.zz
        have fb3 : w3.frozen? ⟨z, 2, none⟩ = false := frozen_of_row w3 z 2 _ 51 R3.out.zz
        obtain ⟨Y3, hY3⟩ : ∃ Y, w3.setCell ⟨z, 2, none⟩ (.int .i64 n3) = Y := ⟨_, rfl⟩
        have Q3 : Hid (Rd w g gx z (.slice p n c) v L a3 E3 #[.int .i64 n1, .int .i64 n2, .int .i64 n3, .int .i64 0, .int .i64 0, .int .i64 0, .int .i64 0, .int .i64 0, .int .i64 0, .int .i64 0, .int .i64 0] Y3) := hide (by
          have q := R3.out.put 2 (.int .i64 n3)
          simp only [List.setIfInBounds_toArray, List.set_cons_succ, List.set_cons_zero] at q
          rw [← hY3]
          exact q)
        have HY3 := hide hY3
        clear r3 hY3
        have k4' := hide (Q3.out.call HV.out H4.out.2 H4.out.1)
        go_wp2_with fail
        rw [HY3.out]
        refine k4'.out.mono ?_
        clear b3 fb3
        rintro e w4 ⟨rfl, r4⟩
        have R4 := hide r4
        have b4 : w4.cell? ⟨z, 3, none⟩ = some (.int .i64 0) := cell_of_row w4 z 3 _ 51 (0, 0) R4.out.zz
        have fb4 : w4.frozen? ⟨z, 3, none⟩ = false := frozen_of_row w4 z 3 _ 51 R4.out.zz
        obtain ⟨Y4, hY4⟩ : ∃ Y, w4.setCell ⟨z, 3, none⟩ (.int .i64 n4) = Y := ⟨_, rfl⟩
        have Q4 : Hid (Rd w g gx z (.slice p n c) v L a4 E4 #[.int .i64 n1, .int .i64 n2, .int .i64 n3, .int .i64 n4, .int .i64 0, .int .i64 0, .int .i64 0, .int .i64 0, .int .i64 0, .int .i64 0, .int .i64 0] Y4) := hide (by
          have q := R4.out.put 3 (.int .i64 n4)
          simp only [List.setIfInBounds_toArray, List.set_cons_succ, List.set_cons_zero] at q
          rw [← hY4]
          exact q)
        have HY4 := hide hY4
        clear r4 hY4
        have k5' := hide (Q4.out.call HV.out H5.out.2 H5.out.1)
        go_wp2_with fail
        rw [HY4.out]
        refine k5'.out.mono ?_
        clear b4 fb4
        rintro e w5 ⟨rfl, r5⟩
        have R5 := hide r5
        have b5 : w5.cell? ⟨z, 4, none⟩ = some (.int .i64 0) := cell_of_row w5 z 4 _ 51 (0, 0) R5.out.zz
        have fb5 : w5.frozen? ⟨z, 4, none⟩ = false := frozen_of_row w5 z 4 _ 51 R5.out.zz
        obtain ⟨Y5, hY5⟩ : ∃ Y, w5.setCell ⟨z, 4, none⟩ (.int .i64 n5) = Y := ⟨_, rfl⟩
        have Q5 : Hid (Rd w g gx z (.slice p n c) v L a5 E5 #[.int .i64 n1, .int .i64 n2, .int .i64 n3, .int .i64 n4, .int .i64 n5, .int .i64 0, .int .i64 0, .int .i64 0, .int .i64 0, .int .i64 0, .int .i64 0] Y5) := hide (by
          have q := R5.out.put 4 (.int .i64 n5)
          simp only [List.setIfInBounds_toArray, List.set_cons_succ, List.set_cons_zero] at q
          rw [← hY5]
          exact q)
        have HY5 := hide hY5
        clear r5 hY5
        have k6' := hide (Q5.out.call HV.out H6.out.2 H6.out.1)
        go_wp2_with fail
        rw [HY5.out]
        refine k6'.out.mono ?_
        clear b5 fb5
        rintro e w6 ⟨rfl, r6⟩
        have R6 := hide r6
        have b6 : w6.cell? ⟨z, 5, none⟩ = some (.int .i64 0) := cell_of_row w6 z 5 _ 51 (0, 0) R6.out.zz
        have fb6 : w6.frozen? ⟨z, 5, none⟩ = false := frozen_of_row w6 z 5 _ 51 R6.out.zz
        obtain ⟨Y6, hY6⟩ : ∃ Y, w6.setCell ⟨z, 5, none⟩ (.int .i64 n6) = Y := ⟨_, rfl⟩
        have Q6 : Hid (Rd w g gx z (.slice p n c) v L a6 E6 #[.int .i64 n1, .int .i64 n2, .int .i64 n3, .int .i64 n4, .int .i64 n5, .int .i64 n6, .int .i64 0, .int .i64 0, .int .i64 0, .int .i64 0, .int .i64 0] Y6) := hide (by
          have q := R6.out.put 5 (.int .i64 n6)
          simp only [List.setIfInBounds_toArray, List.set_cons_succ, List.set_cons_zero] at q
          rw [← hY6]
          exact q)
        have HY6 := hide hY6
        clear r6 hY6
        have k7' := hide (Q6.out.call HV.out H7.out.2 H7.out.1)
        go_wp2_with fail
        rw [HY6.out]
        refine k7'.out.mono ?_
        clear b6 fb6
        rintro e w7 ⟨rfl, r7⟩
        have R7 := hide r7
        have b7 : w7.cell? ⟨z, 6, none⟩ = some (.int .i64 0) := cell_of_row w7 z 6 _ 51 (0, 0) R7.out.zz
        have fb7 : w7.frozen? ⟨z, 6, none⟩ = false := frozen_of_row w7 z 6 _ 51 R7.out.zz
        obtain ⟨Y7, hY7⟩ : ∃ Y, w7.setCell ⟨z, 6, none⟩ (.int .i64 n7) = Y := ⟨_, rfl⟩
        have Q7 : Hid (Rd w g gx z (.slice p n c) v L a7 E7 #[.int .i64 n1, .int .i64 n2, .int .i64 n3, .int .i64 n4, .int .i64 n5, .int .i64 n6, .int .i64 n7, .int .i64 0, .int .i64 0, .int .i64 0, .int .i64 0] Y7) := hide (by
          have q := R7.out.put 6 (.int .i64 n7)
          simp only [List.setIfInBounds_toArray, List.set_cons_succ, List.set_cons_zero] at q
          rw [← hY7]
          exact q)
        have HY7 := hide hY7
        clear r7 hY7
        have k8' := hide (Q7.out.call HV.out H8.out.2 H8.out.1)
        go_wp2_with fail
        rw [HY7.out]
        refine k8'.out.mono ?_
        clear b7 fb7
        rintro e w8 ⟨rfl, r8⟩
        have R8 := hide r8
        have b8 : w8.cell? ⟨z, 7, none⟩ = some (.int .i64 0) := cell_of_row w8 z 7 _ 51 (0, 0) R8.out.zz
        have fb8 : w8.frozen? ⟨z, 7, none⟩ = false := frozen_of_row w8 z 7 _ 51 R8.out.zz
        obtain ⟨Y8, hY8⟩ : ∃ Y, w8.setCell ⟨z, 7, none⟩ (.int .i64 n8) = Y := ⟨_, rfl⟩
        have Q8 : Hid (Rd w g gx z (.slice p n c) v L a8 E8 #[.int .i64 n1, .int .i64 n2, .int .i64 n3, .int .i64 n4, .int .i64 n5, .int .i64 n6, .int .i64 n7, .int .i64 n8, .int .i64 0, .int .i64 0, .int .i64 0] Y8) := hide (by
          have q := R8.out.put 7 (.int .i64 n8)
          simp only [List.setIfInBounds_toArray, List.set_cons_succ, List.set_cons_zero] at q
          rw [← hY8]
          exact q)
        have HY8 := hide hY8
        clear r8 hY8
        have k9' := hide (Q8.out.call HV.out H9.out.2 H9.out.1)
        go_wp2_with fail
        rw [HY8.out]
        refine k9'.out.mono ?_
        clear b8 fb8
        rintro e w9 ⟨rfl, r9⟩
        have R9 := hide r9
        have b9 : w9.cell? ⟨z, 8, none⟩ = some (.int .i64 0) := cell_of_row w9 z 8 _ 51 (0, 0) R9.out.zz
        have fb9 : w9.frozen? ⟨z, 8, none⟩ = false := frozen_of_row w9 z 8 _ 51 R9.out.zz
        obtain ⟨Y9, hY9⟩ : ∃ Y, w9.setCell ⟨z, 8, none⟩ (.int .i64 n9) = Y := ⟨_, rfl⟩
        have Q9 : Hid (Rd w g gx z (.slice p n c) v L a9 E9 #[.int .i64 n1, .int .i64 n2, .int .i64 n3, .int .i64 n4, .int .i64 n5, .int .i64 n6, .int .i64 n7, .int .i64 n8, .int .i64 n9, .int .i64 0, .int .i64 0] Y9) := hide (by
          have q := R9.out.put 8 (.int .i64 n9)
          simp only [List.setIfInBounds_toArray, List.set_cons_succ, List.set_cons_zero] at q
          rw [← hY9]
          exact q)
        have HY9 := hide hY9
        clear r9 hY9
        have k10' := hide (Q9.out.call HV.out H10.out.2 H10.out.1)
        go_wp2_with fail
        rw [HY9.out]
        refine k10'.out.mono ?_
        clear b9 fb9
        rintro e w10 ⟨rfl, r10⟩
        have R10 := hide r10
        have b10 : w10.cell? ⟨z, 9, none⟩ = some (.int .i64 0) := cell_of_row w10 z 9 _ 51 (0, 0) R10.out.zz
        have fb10 : w10.frozen? ⟨z, 9, none⟩ = false := frozen_of_row w10 z 9 _ 51 R10.out.zz
        obtain ⟨Y10, hY10⟩ : ∃ Y, w10.setCell ⟨z, 9, none⟩ (.int .i64 n10) = Y := ⟨_, rfl⟩
        have Q10 : Hid (Rd w g gx z (.slice p n c) v L a10 E10 #[.int .i64 n1, .int .i64 n2, .int .i64 n3, .int .i64 n4, .int .i64 n5, .int .i64 n6, .int .i64 n7, .int .i64 n8, .int .i64 n9, .int .i64 n10, .int .i64 0] Y10) := hide (by
          have q := R10.out.put 9 (.int .i64 n10)
          simp only [List.setIfInBounds_toArray, List.set_cons_succ, List.set_cons_zero] at q
          rw [← hY10]
          exact q)
        have HY10 := hide hY10
        clear r10 hY10
        have k11' := hide (Q10.out.call HV.out H11.out.2 H11.out.1)
        go_wp2_with fail
        rw [HY10.out]
        refine k11'.out.mono ?_
        clear b10 fb10
        rintro e w11 ⟨rfl, r11⟩
        have R11 := hide r11
        have b11 : w11.cell? ⟨z, 10, none⟩ = some (.int .i64 0) := cell_of_row w11 z 10 _ 51 (0, 0) R11.out.zz
        have fb11 : w11.frozen? ⟨z, 10, none⟩ = false := frozen_of_row w11 z 10 _ 51 R11.out.zz
        obtain ⟨Y11, hY11⟩ : ∃ Y, w11.setCell ⟨z, 10, none⟩ (.int .i64 n11) = Y := ⟨_, rfl⟩
        have Q11 : Hid (Rd w g gx z (.slice p n c) v L a11 E11 #[.int .i64 n1, .int .i64 n2, .int .i64 n3, .int .i64 n4, .int .i64 n5, .int .i64 n6, .int .i64 n7, .int .i64 n8, .int .i64 n9, .int .i64 n10, .int .i64 n11] Y11) := hide (by
          have q := R11.out.put 10 (.int .i64 n11)
          simp only [List.setIfInBounds_toArray, List.set_cons_succ, List.set_cons_zero] at q
          rw [← hY11]
          exact q)
        have HY11 := hide hY11
        clear r11 hY11
        go_wp2_with fail
        rw [HY11.out]
        have HREF : Hid (¬ ((⟨n1, n2, n3, ⟨n4, n5, n6, n7, n8, n9, n10, n11⟩⟩ : St).ok = true ∧ ∀ y ∈ L, y.s < (n1 : Int)) → loadT l = none) := hide (fun hno => HR.out.1.refuse (by have := HNN.out; omega) (by omega) (by rw [HNX.out]; exact hno))
        have HNEXT : Hid ((⟨n1, n2, n3, ⟨n4, n5, n6, n7, n8, n9, n10, n11⟩⟩ : St).ok = true → (∀ y ∈ L, y.s < (n1 : Int)) → RlOk l (k + 1) (L ++ [(⟨n1, n2, n3, ⟨n4, n5, n6, n7, n8, n9, n10, n11⟩⟩ : St)]) (a11, E11)) := hide (fun h1 h2 => by
          have := HR.out.1.next (by omega) (by rw [HNX.out]; exact h1) (by rw [HNX.out]; exact h2)
          rwa [HNX.out] at this)
        clear b11 fb11
        have HKN : Hid (k < N ∧ k ≤ 8) := hide ⟨by omega, by omega⟩
        have Q11' := Q11
        obtain ⟨i1, hi1⟩ : ∃ i : Int, ((n1 : Nat) : Int) = i := ⟨_, rfl⟩
        obtain ⟨i2, hi2⟩ : ∃ i : Int, ((n2 : Nat) : Int) = i := ⟨_, rfl⟩
        obtain ⟨i3, hi3⟩ : ∃ i : Int, ((n3 : Nat) : Int) = i := ⟨_, rfl⟩
        obtain ⟨i4, hi4⟩ : ∃ i : Int, ((n4 : Nat) : Int) = i := ⟨_, rfl⟩
        obtain ⟨i5, hi5⟩ : ∃ i : Int, ((n5 : Nat) : Int) = i := ⟨_, rfl⟩
        obtain ⟨i6, hi6⟩ : ∃ i : Int, ((n6 : Nat) : Int) = i := ⟨_, rfl⟩
        obtain ⟨i7, hi7⟩ : ∃ i : Int, ((n7 : Nat) : Int) = i := ⟨_, rfl⟩
        obtain ⟨i8, hi8⟩ : ∃ i : Int, ((n8 : Nat) : Int) = i := ⟨_, rfl⟩
        obtain ⟨i9, hi9⟩ : ∃ i : Int, ((n9 : Nat) : Int) = i := ⟨_, rfl⟩
        obtain ⟨i10, hi10⟩ : ∃ i : Int, ((n10 : Nat) : Int) = i := ⟨_, rfl⟩
        obtain ⟨i11, hi11⟩ : ∃ i : Int, ((n11 : Nat) : Int) = i := ⟨_, rfl⟩
        have HI := hide (And.intro hi1 (And.intro hi2 (And.intro hi3 (And.intro hi4 (And.intro hi5 (And.intro hi6 (And.intro hi7 (And.intro hi8 (And.intro hi9 (And.intro hi10 (hi11)))))))))))
        rw [hi1, hi2, hi3, hi4, hi5, hi6, hi7, hi8, hi9, hi10, hi11] at Q11
        clear hi1 hi2 hi3 hi4 hi5 hi6 hi7 hi8 hi9 hi10 hi11
        have x0 : Y11.cell? ⟨z, 0, none⟩ = some (.int .i64 i1) := cell_of_row Y11 z 0 _ 51 (0, 0) Q11.out.zz
        have x1 : Y11.cell? ⟨z, 1, none⟩ = some (.int .i64 i2) := cell_of_row Y11 z 1 _ 51 (0, 0) Q11.out.zz
        have x2 : Y11.cell? ⟨z, 2, none⟩ = some (.int .i64 i3) := cell_of_row Y11 z 2 _ 51 (0, 0) Q11.out.zz
        have x3 : Y11.cell? ⟨z, 3, none⟩ = some (.int .i64 i4) := cell_of_row Y11 z 3 _ 51 (0, 0) Q11.out.zz
        have x4 : Y11.cell? ⟨z, 4, none⟩ = some (.int .i64 i5) := cell_of_row Y11 z 4 _ 51 (0, 0) Q11.out.zz
        have x5 : Y11.cell? ⟨z, 5, none⟩ = some (.int .i64 i6) := cell_of_row Y11 z 5 _ 51 (0, 0) Q11.out.zz
        have x6 : Y11.cell? ⟨z, 6, none⟩ = some (.int .i64 i7) := cell_of_row Y11 z 6 _ 51 (0, 0) Q11.out.zz
        have x7 : Y11.cell? ⟨z, 7, none⟩ = some (.int .i64 i8) := cell_of_row Y11 z 7 _ 51 (0, 0) Q11.out.zz
        have x8 : Y11.cell? ⟨z, 8, none⟩ = some (.int .i64 i9) := cell_of_row Y11 z 8 _ 51 (0, 0) Q11.out.zz
        have x9 : Y11.cell? ⟨z, 9, none⟩ = some (.int .i64 i10) := cell_of_row Y11 z 9 _ 51 (0, 0) Q11.out.zz
        have x10 : Y11.cell? ⟨z, 10, none⟩ = some (.int .i64 i11) := cell_of_row Y11 z 10 _ 51 (0, 0) Q11.out.zz
        obtain ⟨D, hD⟩ : ∃ D, Y11.drew = D := ⟨_, rfl⟩
        have QD : Hid (Rd w g gx z (.slice p n c) v L a11 E11 #[.int .i64 i1, .int .i64 i2, .int .i64 i3, .int .i64 i4, .int .i64 i5, .int .i64 i6, .int .i64 i7, .int .i64 i8, .int .i64 i9, .int .i64 i10, .int .i64 i11] D) := hide (by rw [← hD]; exact Q11.out.bel (bdrew Y11 1))
        have HD := hide hD
        clear hD
        by_cases hA1 : i1 < 1
        · have hi1 := HI.out.1
          have HNO := hide (HREF.out (fun h => by have h1 := (St.ok_iff.1 h.1).1; dsimp only at h1; omega))
          clear hi1
          have e1 : decide (i1 < 1) = true := decide_eq_true hA1
          go_wp2
          go_region
          rw [HD.out]
          clear x0 x1 x2 x3 x4 x5 x6 x7 x8 x9 x10
          go_wp2
          go_ret2
          rw [HNO.out]
          exact ⟨by rfl, by first | exact QD.out.b | exact QD.out.b.trans (bdrew _ _)⟩
        by_cases hA3 : i3 < 1
        · have hi3 := HI.out.2.2.1
          have HNO := hide (HREF.out (fun h => by have h1 := (St.ok_iff.1 h.1).2.2.1; dsimp only at h1; omega))
          clear hi3
          have e1 : decide (i1 < 1) = false := decide_eq_false hA1
          have e3 : decide (i3 < 1) = true := decide_eq_true hA3
          go_wp2
          go_region
          rw [HD.out]
          clear x0 x1 x2 x3 x4 x5 x6 x7 x8 x9 x10
          go_wp2
          go_ret2
          rw [HNO.out]
          exact ⟨by rfl, by first | exact QD.out.b | exact QD.out.b.trans (bdrew _ _)⟩
        have e1 : decide (i1 < 1) = false := decide_eq_false hA1
        have e3 : decide (i3 < 1) = false := decide_eq_false hA3
        cases k with
        | zero =>
          obtain ⟨pv, nv, cv, hv9⟩ := Q11.out.x.own.sts.sl
          subst hv9
          have HLT : Hid (∀ y ∈ L, y.s < (n1 : Int)) := hide (fun y hy => by have := HR.out.1.len; rw [List.length_eq_zero_iff.1 this] at hy; cases hy)
          go_wp2
          go_region
          rw [HD.out]
          clear x0 x1 x2 x3 x4 x5 x6 x7 x8 x9 x10
          have d0 : D.cell? ⟨z, 0, none⟩ = some (.int .i64 i1) := cell_of_row D z 0 _ 51 (0, 0) QD.out.zz
          have d1 : D.cell? ⟨z, 1, none⟩ = some (.int .i64 i2) := cell_of_row D z 1 _ 51 (0, 0) QD.out.zz
          have d2 : D.cell? ⟨z, 2, none⟩ = some (.int .i64 i3) := cell_of_row D z 2 _ 51 (0, 0) QD.out.zz
          have d3 : D.cell? ⟨z, 3, none⟩ = some (.int .i64 i4) := cell_of_row D z 3 _ 51 (0, 0) QD.out.zz
          have d4 : D.cell? ⟨z, 4, none⟩ = some (.int .i64 i5) := cell_of_row D z 4 _ 51 (0, 0) QD.out.zz
          have d5 : D.cell? ⟨z, 5, none⟩ = some (.int .i64 i6) := cell_of_row D z 5 _ 51 (0, 0) QD.out.zz
          have d6 : D.cell? ⟨z, 6, none⟩ = some (.int .i64 i7) := cell_of_row D z 6 _ 51 (0, 0) QD.out.zz
          have d7 : D.cell? ⟨z, 7, none⟩ = some (.int .i64 i8) := cell_of_row D z 7 _ 51 (0, 0) QD.out.zz
          have d8 : D.cell? ⟨z, 8, none⟩ = some (.int .i64 i9) := cell_of_row D z 8 _ 51 (0, 0) QD.out.zz
          have d9 : D.cell? ⟨z, 9, none⟩ = some (.int .i64 i10) := cell_of_row D z 9 _ 51 (0, 0) QD.out.zz
          have d10 : D.cell? ⟨z, 10, none⟩ = some (.int .i64 i11) := cell_of_row D z 10 _ 51 (0, 0) QD.out.zz
          by_cases hB1 : (1099511627776 : Int) < i1
          · have hi1 := HI.out.1
            have HNO := hide (HREF.out (fun h => by have h1 := (St.ok_iff.1 h.1).1; dsimp only at h1; omega))
            clear hi1
            have b1 : decide ((1099511627776 : Int) < i1) = true := decide_eq_true hB1
            go_wp2
            go_ret2
            rw [HNO.out]
            exact ⟨by rfl, by first | exact QD.out.b | exact QD.out.b.trans (bdrew _ _)⟩
          have b1 : decide ((1099511627776 : Int) < i1) = false := decide_eq_false hB1
          by_cases hB2 : (1099511627776 : Int) < i2
          · have hi2 := HI.out.2.1
            have HNO := hide (HREF.out (fun h => by have h1 := (St.ok_iff.1 h.1).2.1; dsimp only at h1; omega))
            clear hi2
            have b2 : decide ((1099511627776 : Int) < i2) = true := decide_eq_true hB2
            go_wp2
            go_ret2
            rw [HNO.out]
            exact ⟨by rfl, by first | exact QD.out.b | exact QD.out.b.trans (bdrew _ _)⟩
          have b2 : decide ((1099511627776 : Int) < i2) = false := decide_eq_false hB2
          by_cases hB3 : (1099511627776 : Int) < i3
          · have hi3 := HI.out.2.2.1
            have HNO := hide (HREF.out (fun h => by have h1 := (St.ok_iff.1 h.1).2.2.1; dsimp only at h1; omega))
            clear hi3
            have b3 : decide ((1099511627776 : Int) < i3) = true := decide_eq_true hB3
            go_wp2
            go_ret2
            rw [HNO.out]
            exact ⟨by rfl, by first | exact QD.out.b | exact QD.out.b.trans (bdrew _ _)⟩
          have b3 : decide ((1099511627776 : Int) < i3) = false := decide_eq_false hB3
          have hck := fun V => refCheck_any V (⟨n4, n5, n6, n7, n8, n9, n10, n11⟩ : Rp)
          unfold rpV ChkPost at hck
          dsimp only at hck
          obtain ⟨okr, hrk⟩ : ∃ b, (⟨n4, n5, n6, n7, n8, n9, n10, n11⟩ : Rp).ok = b := ⟨_, rfl⟩
          simp only [hrk] at hck
          have hi4 := HI.out.2.2.2.1
          have hi5 := HI.out.2.2.2.2.1
          have hi6 := HI.out.2.2.2.2.2.1
          have hi7 := HI.out.2.2.2.2.2.2.1
          have hi8 := HI.out.2.2.2.2.2.2.2.1
          have hi9 := HI.out.2.2.2.2.2.2.2.2.1
          have hi10 := HI.out.2.2.2.2.2.2.2.2.2.1
          have hi11 := HI.out.2.2.2.2.2.2.2.2.2.2
          simp only [hi4, hi5, hi6, hi7, hi8, hi9, hi10, hi11] at hck
          clear hi4 hi5 hi6 hi7 hi8 hi9 hi10 hi11
          cases okr
          · have HCK := hide hck
            have HNO := hide (HREF.out (fun h => by have h1 := (St.ok_iff.1 h.1).2.2.2; dsimp only at h1; rw [hrk] at h1; cases h1))
            clear hck hrk
            go_wp2_with fail
            refine (HCK.out _).mono ?_
            rintro e w12 ⟨rfl, hb12⟩
            have HB12 := hide (QD.out.b.trans (hb12.mono QD.out.b.size))
            clear hb12
            go_wp2
            go_ret2
            rw [HNO.out]
            exact ⟨by rfl, HB12.out⟩
          · have HCK := hide hck
            have HRL := hide (HNEXT.out (St.ok_iff.2 ⟨by have h1 := HI.out.1; exact ⟨by dsimp only; omega, by dsimp only; omega⟩, by have h1 := HI.out.2.1; exact ⟨by dsimp only; omega, by dsimp only; omega⟩, by have h1 := HI.out.2.2.1; exact ⟨by dsimp only; omega, by dsimp only; omega⟩, hrk⟩) HLT.out)
            clear hck hrk
            go_wp2_with fail
            refine (HCK.out _).mono ?_
            rintro e w12 ⟨rfl, hb12⟩
            have Q12 := hide (QD.out.bel hb12)
            clear hb12 d0 d1 d2 d3 d4 d5 d6 d7 d8 d9 d10
            have x0 : w12.cell? ⟨z, 0, none⟩ = some (.int .i64 i1) := cell_of_row w12 z 0 _ 51 (0, 0) Q12.out.zz
            have x1 : w12.cell? ⟨z, 1, none⟩ = some (.int .i64 i2) := cell_of_row w12 z 1 _ 51 (0, 0) Q12.out.zz
            have x2 : w12.cell? ⟨z, 2, none⟩ = some (.int .i64 i3) := cell_of_row w12 z 2 _ 51 (0, 0) Q12.out.zz
            have x3 : w12.cell? ⟨z, 3, none⟩ = some (.int .i64 i4) := cell_of_row w12 z 3 _ 51 (0, 0) Q12.out.zz
            have x4 : w12.cell? ⟨z, 4, none⟩ = some (.int .i64 i5) := cell_of_row w12 z 4 _ 51 (0, 0) Q12.out.zz
            have x5 : w12.cell? ⟨z, 5, none⟩ = some (.int .i64 i6) := cell_of_row w12 z 5 _ 51 (0, 0) Q12.out.zz
            have x6 : w12.cell? ⟨z, 6, none⟩ = some (.int .i64 i7) := cell_of_row w12 z 6 _ 51 (0, 0) Q12.out.zz
            have x7 : w12.cell? ⟨z, 7, none⟩ = some (.int .i64 i8) := cell_of_row w12 z 7 _ 51 (0, 0) Q12.out.zz
            have x8 : w12.cell? ⟨z, 8, none⟩ = some (.int .i64 i9) := cell_of_row w12 z 8 _ 51 (0, 0) Q12.out.zz
            have x9 : w12.cell? ⟨z, 9, none⟩ = some (.int .i64 i10) := cell_of_row w12 z 9 _ 51 (0, 0) Q12.out.zz
            have x10 : w12.cell? ⟨z, 10, none⟩ = some (.int .i64 i11) := cell_of_row w12 z 10 _ 51 (0, 0) Q12.out.zz
            have c0 := Q12.out.x.c0
            have HRX : Hid (RlOk l (0 + 1) (L ++ [(⟨i1, i2, i3, ⟨i4, i5, i6, i7, i8, i9, i10, i11⟩⟩ : St)]) (a11, E11)) := hide (by
              have h := HRL.out
              have hi1 := HI.out.1
              have hi2 := HI.out.2.1
              have hi3 := HI.out.2.2.1
              have hi4 := HI.out.2.2.2.1
              have hi5 := HI.out.2.2.2.2.1
              have hi6 := HI.out.2.2.2.2.2.1
              have hi7 := HI.out.2.2.2.2.2.2.1
              have hi8 := HI.out.2.2.2.2.2.2.2.1
              have hi9 := HI.out.2.2.2.2.2.2.2.2.1
              have hi10 := HI.out.2.2.2.2.2.2.2.2.2.1
              have hi11 := HI.out.2.2.2.2.2.2.2.2.2.2
              simp only [hi1, hi2, hi3, hi4, hi5, hi6, hi7, hi8, hi9, hi10, hi11] at h
              exact h)
            have bA : Below w12.heap.size w12 (w12.alloc (.cells #[.int .i64 i1, .int .i64 i2, .int .i64 i3, .int .i64 i4, .int .i64 i5, .int .i64 i6, .int .i64 i7, .int .i64 i8, .int .i64 i9, .int .i64 i10, .int .i64 i11] 51)) := (Below.refl _ _).alloc (Nat.le_refl _) _
            have HBA2 := hide bA
            have HST : Hid (∀ q, Sts ((w12.alloc (.cells #[.int .i64 i1, .int .i64 i2, .int .i64 i3, .int .i64 i4, .int .i64 i5, .int .i64 i6, .int .i64 i7, .int .i64 i8, .int .i64 i9, .int .i64 i10, .int .i64 i11] 51)).drewN q) (.slice (some ⟨w12.heap.size, 0, none⟩) 1 1) [(⟨i1, i2, i3, ⟨i4, i5, i6, i7, i8, i9, i10, i11⟩⟩ : St)]) := hide fun q => sts_one ((StAt.box w12 (⟨i1, i2, i3, ⟨i4, i5, i6, i7, i8, i9, i10, i11⟩⟩ : St)).drewN q)
            have HOV : Hid (∀ q, OwnT (gx + 1) ((w12.alloc (.cells #[.int .i64 i1, .int .i64 i2, .int .i64 i3, .int .i64 i4, .int .i64 i5, .int .i64 i6, .int .i64 i7, .int .i64 i8, .int .i64 i9, .int .i64 i10, .int .i64 i11] 51)).drewN q) (.slice pv nv cv) L) := hide fun q => (Q12.out.x.own.below bA).below (bdrew _ q)
            have HLL9 : Hid (L.length ≤ 9) := hide (by have := HR.out.1.len; omega)
            have HGX9 : Hid (gx + 1 ≤ w12.heap.size) := hide Q12.out.x.lt
            have HPU := hide (fun (A V9 : World) (p9 : Option Addr) (n9 c9 : Nat) (L9 : List St) (hA : Below w12.heap.size w12 A) (h9 : OwnT (gx + 1) V9 (.slice p9 n9 c9) L9) (hg : A.grownBy V9 (Value.slice pv nv cv).ownBlock) => Q12.out.push HGL2.out hA h9 hg)
            have c9 : (w12.alloc (.cells #[.int .i64 i1, .int .i64 i2, .int .i64 i3, .int .i64 i4, .int .i64 i5, .int .i64 i6, .int .i64 i7, .int .i64 i8, .int .i64 i9, .int .i64 i10, .int .i64 i11] 51)).cell? ⟨gx, 0, none⟩ = some (.slice pv nv cv) := cell_of_row _ gx 0 _ _ (0, 0) ((bA.block gx Q12.out.x.lt).trans Q12.out.x.row)
            clear bA
            go_wp2_with fail
            go_region_law (refine step_pushesT (by rfl) _ _ (by rfl) (by rfl) (by rfl) (by rfl) (by first | exact HOV.out 1 | exact HOV.out 0) (by first | exact HST.out 1 | exact HST.out 0) (by have := HGX9.out; simp; omega) (by have := HLL9.out; simp; omega) ?_; intro v9 V9 ho9 hb9 hg9; obtain ⟨p9, n9, c9, rfl⟩ := ho9.sts.sl; have HP9 := hide (HPU.out _ V9 p9 n9 c9 _ (by first | exact HBA2.out | exact HBA2.out.trans (bdrew _ 1)) ho9 hg9); have k9 := HP9.out.2.2.2.1; have f9 := HP9.out.2.2.2.2; clear ho9 hb9 hg9)
            all_goals
              go_wp2
              go_roundw
              case rel => exact ⟨0 + 1, L ++ [(⟨i1, i2, i3, ⟨i4, i5, i6, i7, i8, i9, i10, i11⟩⟩ : St)], (a11, E11), _, by have := HKN.out; omega, by have := HKN.out; omega, by go_num, hide ⟨HRX.out, HP9.out.1, HP9.out.2.1, HP9.out.2.2.1⟩⟩
              case measure => first | (simp [intOf]; omega) | simp [intOf]
        | succ j =>
          obtain ⟨y, hy⟩ : ∃ y, L[j]? = some y := ⟨_, List.getElem?_eq_getElem (by have := HR.out.1.len; omega)⟩
          have hvs := Q11.out.x.own.sts
          obtain ⟨pv, nv, cv, rfl⟩ := hvs.sl
          have hnv : nv = j + 1 := by have h1 := hvs.len.1; have h2 := HR.out.1.len; omega
          subst hnv
          obtain ⟨gv, ov, rfl, hcv⟩ := hvs.at_ (by omega)
          have ys := (hcv j y hy).all.1
          have c0 := Q11.out.x.c0
          have HLST := hide (fun h => rises_last HR.out.1.rises hy HR.out.1.len (n := (n1 : Int)) h)
          have HYM := hide (List.mem_of_getElem? hy)
          obtain ⟨yS, hyS⟩ : ∃ yS, y.s = yS := ⟨_, rfl⟩
          have HYS := hide hyS
          rw [hyS] at ys HLST
          clear hvs hcv hy hyS
          by_cases hA4 : i1 ≤ yS
          · have hi1 := HI.out.1
            have HNO := hide (HREF.out (fun h => by have h1 := h.2 y HYM.out; have h2 := HYS.out; omega))
            clear hi1
            have e4 : decide (i1 ≤ yS) = true := decide_eq_true hA4
            go_wp2
            go_region
            rw [HD.out]
            clear x0 x1 x2 x3 x4 x5 x6 x7 x8 x9 x10
            go_wp2
            go_ret2
            rw [HNO.out]
            exact ⟨by rfl, by first | exact QD.out.b | exact QD.out.b.trans (bdrew _ _)⟩
          have HLT := hide (HLST.out (by have h1 := HI.out.1; omega))
          have e4 : decide (i1 ≤ yS) = false := decide_eq_false hA4
          go_wp2
          go_region
          rw [HD.out]
          clear ys c0
          clear x0 x1 x2 x3 x4 x5 x6 x7 x8 x9 x10
          have d0 : D.cell? ⟨z, 0, none⟩ = some (.int .i64 i1) := cell_of_row D z 0 _ 51 (0, 0) QD.out.zz
          have d1 : D.cell? ⟨z, 1, none⟩ = some (.int .i64 i2) := cell_of_row D z 1 _ 51 (0, 0) QD.out.zz
          have d2 : D.cell? ⟨z, 2, none⟩ = some (.int .i64 i3) := cell_of_row D z 2 _ 51 (0, 0) QD.out.zz
          have d3 : D.cell? ⟨z, 3, none⟩ = some (.int .i64 i4) := cell_of_row D z 3 _ 51 (0, 0) QD.out.zz
          have d4 : D.cell? ⟨z, 4, none⟩ = some (.int .i64 i5) := cell_of_row D z 4 _ 51 (0, 0) QD.out.zz
          have d5 : D.cell? ⟨z, 5, none⟩ = some (.int .i64 i6) := cell_of_row D z 5 _ 51 (0, 0) QD.out.zz
          have d6 : D.cell? ⟨z, 6, none⟩ = some (.int .i64 i7) := cell_of_row D z 6 _ 51 (0, 0) QD.out.zz
          have d7 : D.cell? ⟨z, 7, none⟩ = some (.int .i64 i8) := cell_of_row D z 7 _ 51 (0, 0) QD.out.zz
          have d8 : D.cell? ⟨z, 8, none⟩ = some (.int .i64 i9) := cell_of_row D z 8 _ 51 (0, 0) QD.out.zz
          have d9 : D.cell? ⟨z, 9, none⟩ = some (.int .i64 i10) := cell_of_row D z 9 _ 51 (0, 0) QD.out.zz
          have d10 : D.cell? ⟨z, 10, none⟩ = some (.int .i64 i11) := cell_of_row D z 10 _ 51 (0, 0) QD.out.zz
          by_cases hB1 : (1099511627776 : Int) < i1
          · have hi1 := HI.out.1
            have HNO := hide (HREF.out (fun h => by have h1 := (St.ok_iff.1 h.1).1; dsimp only at h1; omega))
            clear hi1
            have b1 : decide ((1099511627776 : Int) < i1) = true := decide_eq_true hB1
            go_wp2
            go_ret2
            rw [HNO.out]
            exact ⟨by rfl, by first | exact QD.out.b | exact QD.out.b.trans (bdrew _ _)⟩
          have b1 : decide ((1099511627776 : Int) < i1) = false := decide_eq_false hB1
          by_cases hB2 : (1099511627776 : Int) < i2
          · have hi2 := HI.out.2.1
            have HNO := hide (HREF.out (fun h => by have h1 := (St.ok_iff.1 h.1).2.1; dsimp only at h1; omega))
            clear hi2
            have b2 : decide ((1099511627776 : Int) < i2) = true := decide_eq_true hB2
            go_wp2
            go_ret2
            rw [HNO.out]
            exact ⟨by rfl, by first | exact QD.out.b | exact QD.out.b.trans (bdrew _ _)⟩
          have b2 : decide ((1099511627776 : Int) < i2) = false := decide_eq_false hB2
          by_cases hB3 : (1099511627776 : Int) < i3
          · have hi3 := HI.out.2.2.1
            have HNO := hide (HREF.out (fun h => by have h1 := (St.ok_iff.1 h.1).2.2.1; dsimp only at h1; omega))
            clear hi3
            have b3 : decide ((1099511627776 : Int) < i3) = true := decide_eq_true hB3
            go_wp2
            go_ret2
            rw [HNO.out]
            exact ⟨by rfl, by first | exact QD.out.b | exact QD.out.b.trans (bdrew _ _)⟩
          have b3 : decide ((1099511627776 : Int) < i3) = false := decide_eq_false hB3
          have hck := fun V => refCheck_any V (⟨n4, n5, n6, n7, n8, n9, n10, n11⟩ : Rp)
          unfold rpV ChkPost at hck
          dsimp only at hck
          obtain ⟨okr, hrk⟩ : ∃ b, (⟨n4, n5, n6, n7, n8, n9, n10, n11⟩ : Rp).ok = b := ⟨_, rfl⟩
          simp only [hrk] at hck
          have hi4 := HI.out.2.2.2.1
          have hi5 := HI.out.2.2.2.2.1
          have hi6 := HI.out.2.2.2.2.2.1
          have hi7 := HI.out.2.2.2.2.2.2.1
          have hi8 := HI.out.2.2.2.2.2.2.2.1
          have hi9 := HI.out.2.2.2.2.2.2.2.2.1
          have hi10 := HI.out.2.2.2.2.2.2.2.2.2.1
          have hi11 := HI.out.2.2.2.2.2.2.2.2.2.2
          simp only [hi4, hi5, hi6, hi7, hi8, hi9, hi10, hi11] at hck
          clear hi4 hi5 hi6 hi7 hi8 hi9 hi10 hi11
          cases okr
          · have HCK := hide hck
            have HNO := hide (HREF.out (fun h => by have h1 := (St.ok_iff.1 h.1).2.2.2; dsimp only at h1; rw [hrk] at h1; cases h1))
            clear hck hrk
            go_wp2_with fail
            refine (HCK.out _).mono ?_
            rintro e w12 ⟨rfl, hb12⟩
            have HB12 := hide (QD.out.b.trans (hb12.mono QD.out.b.size))
            clear hb12
            go_wp2
            go_ret2
            rw [HNO.out]
            exact ⟨by rfl, HB12.out⟩
          · have HCK := hide hck
            have HRL := hide (HNEXT.out (St.ok_iff.2 ⟨by have h1 := HI.out.1; exact ⟨by dsimp only; omega, by dsimp only; omega⟩, by have h1 := HI.out.2.1; exact ⟨by dsimp only; omega, by dsimp only; omega⟩, by have h1 := HI.out.2.2.1; exact ⟨by dsimp only; omega, by dsimp only; omega⟩, hrk⟩) HLT.out)
            clear hck hrk
            go_wp2_with fail
            refine (HCK.out _).mono ?_
            rintro e w12 ⟨rfl, hb12⟩
            have Q12 := hide (QD.out.bel hb12)
            clear hb12 d0 d1 d2 d3 d4 d5 d6 d7 d8 d9 d10
            have x0 : w12.cell? ⟨z, 0, none⟩ = some (.int .i64 i1) := cell_of_row w12 z 0 _ 51 (0, 0) Q12.out.zz
            have x1 : w12.cell? ⟨z, 1, none⟩ = some (.int .i64 i2) := cell_of_row w12 z 1 _ 51 (0, 0) Q12.out.zz
            have x2 : w12.cell? ⟨z, 2, none⟩ = some (.int .i64 i3) := cell_of_row w12 z 2 _ 51 (0, 0) Q12.out.zz
            have x3 : w12.cell? ⟨z, 3, none⟩ = some (.int .i64 i4) := cell_of_row w12 z 3 _ 51 (0, 0) Q12.out.zz
            have x4 : w12.cell? ⟨z, 4, none⟩ = some (.int .i64 i5) := cell_of_row w12 z 4 _ 51 (0, 0) Q12.out.zz
            have x5 : w12.cell? ⟨z, 5, none⟩ = some (.int .i64 i6) := cell_of_row w12 z 5 _ 51 (0, 0) Q12.out.zz
            have x6 : w12.cell? ⟨z, 6, none⟩ = some (.int .i64 i7) := cell_of_row w12 z 6 _ 51 (0, 0) Q12.out.zz
            have x7 : w12.cell? ⟨z, 7, none⟩ = some (.int .i64 i8) := cell_of_row w12 z 7 _ 51 (0, 0) Q12.out.zz
            have x8 : w12.cell? ⟨z, 8, none⟩ = some (.int .i64 i9) := cell_of_row w12 z 8 _ 51 (0, 0) Q12.out.zz
            have x9 : w12.cell? ⟨z, 9, none⟩ = some (.int .i64 i10) := cell_of_row w12 z 9 _ 51 (0, 0) Q12.out.zz
            have x10 : w12.cell? ⟨z, 10, none⟩ = some (.int .i64 i11) := cell_of_row w12 z 10 _ 51 (0, 0) Q12.out.zz
            have c0 := Q12.out.x.c0
            have HRX : Hid (RlOk l ((j + 1) + 1) (L ++ [(⟨i1, i2, i3, ⟨i4, i5, i6, i7, i8, i9, i10, i11⟩⟩ : St)]) (a11, E11)) := hide (by
              have h := HRL.out
              have hi1 := HI.out.1
              have hi2 := HI.out.2.1
              have hi3 := HI.out.2.2.1
              have hi4 := HI.out.2.2.2.1
              have hi5 := HI.out.2.2.2.2.1
              have hi6 := HI.out.2.2.2.2.2.1
              have hi7 := HI.out.2.2.2.2.2.2.1
              have hi8 := HI.out.2.2.2.2.2.2.2.1
              have hi9 := HI.out.2.2.2.2.2.2.2.2.1
              have hi10 := HI.out.2.2.2.2.2.2.2.2.2.1
              have hi11 := HI.out.2.2.2.2.2.2.2.2.2.2
              simp only [hi1, hi2, hi3, hi4, hi5, hi6, hi7, hi8, hi9, hi10, hi11] at h
              exact h)
            have bA : Below w12.heap.size w12 (w12.alloc (.cells #[.int .i64 i1, .int .i64 i2, .int .i64 i3, .int .i64 i4, .int .i64 i5, .int .i64 i6, .int .i64 i7, .int .i64 i8, .int .i64 i9, .int .i64 i10, .int .i64 i11] 51)) := (Below.refl _ _).alloc (Nat.le_refl _) _
            have HBA2 := hide bA
            have HST : Hid (∀ q, Sts ((w12.alloc (.cells #[.int .i64 i1, .int .i64 i2, .int .i64 i3, .int .i64 i4, .int .i64 i5, .int .i64 i6, .int .i64 i7, .int .i64 i8, .int .i64 i9, .int .i64 i10, .int .i64 i11] 51)).drewN q) (.slice (some ⟨w12.heap.size, 0, none⟩) 1 1) [(⟨i1, i2, i3, ⟨i4, i5, i6, i7, i8, i9, i10, i11⟩⟩ : St)]) := hide fun q => sts_one ((StAt.box w12 (⟨i1, i2, i3, ⟨i4, i5, i6, i7, i8, i9, i10, i11⟩⟩ : St)).drewN q)
            have HOV : Hid (∀ q, OwnT (gx + 1) ((w12.alloc (.cells #[.int .i64 i1, .int .i64 i2, .int .i64 i3, .int .i64 i4, .int .i64 i5, .int .i64 i6, .int .i64 i7, .int .i64 i8, .int .i64 i9, .int .i64 i10, .int .i64 i11] 51)).drewN q) (.slice (some ⟨gv, ov, none⟩) (j + 1) cv) L) := hide fun q => (Q12.out.x.own.below bA).below (bdrew _ q)
            have HLL9 : Hid (L.length ≤ 9) := hide (by have := HR.out.1.len; omega)
            have HGX9 : Hid (gx + 1 ≤ w12.heap.size) := hide Q12.out.x.lt
            have HPU := hide (fun (A V9 : World) (p9 : Option Addr) (n9 c9 : Nat) (L9 : List St) (hA : Below w12.heap.size w12 A) (h9 : OwnT (gx + 1) V9 (.slice p9 n9 c9) L9) (hg : A.grownBy V9 (Value.slice (some ⟨gv, ov, none⟩) (j + 1) cv).ownBlock) => Q12.out.push HGL2.out hA h9 hg)
            have c9 : (w12.alloc (.cells #[.int .i64 i1, .int .i64 i2, .int .i64 i3, .int .i64 i4, .int .i64 i5, .int .i64 i6, .int .i64 i7, .int .i64 i8, .int .i64 i9, .int .i64 i10, .int .i64 i11] 51)).cell? ⟨gx, 0, none⟩ = some (.slice (some ⟨gv, ov, none⟩) (j + 1) cv) := cell_of_row _ gx 0 _ _ (0, 0) ((bA.block gx Q12.out.x.lt).trans Q12.out.x.row)
            clear bA
            go_wp2_with fail
            go_region_law (refine step_pushesT (by rfl) _ _ (by rfl) (by rfl) (by rfl) (by rfl) (by first | exact HOV.out 1 | exact HOV.out 0) (by first | exact HST.out 1 | exact HST.out 0) (by have := HGX9.out; simp; omega) (by have := HLL9.out; simp; omega) ?_; intro v9 V9 ho9 hb9 hg9; obtain ⟨p9, n9, c9, rfl⟩ := ho9.sts.sl; have HP9 := hide (HPU.out _ V9 p9 n9 c9 _ (by first | exact HBA2.out | exact HBA2.out.trans (bdrew _ 1)) ho9 hg9); have k9 := HP9.out.2.2.2.1; have f9 := HP9.out.2.2.2.2; clear ho9 hb9 hg9)
            all_goals
              go_wp2
              go_roundw
              case rel => exact ⟨(j + 1) + 1, L ++ [(⟨i1, i2, i3, ⟨i4, i5, i6, i7, i8, i9, i10, i11⟩⟩ : St)], (a11, E11), _, by have := HKN.out; omega, by have := HKN.out; omega, by go_num, hide ⟨HRX.out, HP9.out.1, HP9.out.2.1, HP9.out.2.2.1⟩⟩
              case measure => first | (simp [intOf]; omega) | simp [intOf]
      · obtain rfl : k = 9 := by omega
        have HNON := hide (load_full (l := l) (by rw [HNN.out]; omega))
        obtain ⟨pv, nv, cv, rfl⟩ := HR.out.2.2.1.own.sts.sl
        obtain rfl : nv = 9 := by have h1 := HR.out.2.2.1.own.sts.len.1; have h2 := HR.out.1.len; omega
        have c0 := HR.out.2.2.1.c0
        go_wp2
        go_region
        go_wp2
        go_ret2
        rw [HNON.out]
        exact ⟨by rfl, HR.out.2.2.2.trans ((bdrew wr 1).mono HR.out.2.2.2.size)⟩
    · obtain rfl : k = N := by omega
      by_cases h9 : k = 9
      · subst h9
        have HNON := hide (load_full (l := l) (by rw [HNN.out]; omega))
        obtain ⟨pv, nv, cv, rfl⟩ := HR.out.2.2.1.own.sts.sl
        obtain rfl : nv = 9 := by have h1 := HR.out.2.2.1.own.sts.len.1; have h2 := HR.out.1.len; omega
        have c0 := HR.out.2.2.1.c0
        go_wp2
        go_region
        go_wp2
        go_ret2
        rw [HNON.out]
        exact ⟨by rfl, HR.out.2.2.2.trans ((bdrew wr 1).mono HR.out.2.2.2.size)⟩
      · have hrd := (show RlOk l (ldN l) L st from HNN.out ▸ HR.out.1).done (by rw [HNN.out]; omega)
        obtain ⟨pv, nv, cv, rfl⟩ := HR.out.2.2.1.own.sts.sl
        obtain rfl : nv = k := by have h1 := HR.out.2.2.1.own.sts.len.1; have h2 := HR.out.1.len; omega
        have c0 := HR.out.2.2.1.c0
        have HIM := hide (fun q => refImage_any (HR.out.2.2.1.below (bdrew _ q)) hrd.2)
        have HOF := hide hrd.1
        have hn8 : (nv : Int) ≤ 8 := by omega
        have e8 : decide ((8 : Int) < (nv : Int)) = false := decide_eq_false (by omega)
        have HBW := hide HR.out.2.2.2
        have HVR := hide (HV.out.below HBW.out)
        have HRT := hide HR.out.2.2.1
        have d1 := conv_by HVR.out
        have d0 := conv_at HVR.out
        have d2 : (convert 22 9 (.slice p n c)).run Try.prog wr.drew = .ok (.string (str l)) wr.drew := conv_by HVR.out 1
        clear hrd
        go_wp2
        by_cases hq : imgT L = l
        · have heq : ((str (imgT L)).toList == (str l).toList) = true := by rw [str_beq]; exact decide_eq_true hq
          have HRES := hide (HOF.out.trans (if_pos hq))
          clear hq
          go_region_with (first | (go_at_call 23; refine (HIM.out 1).mono ?_; rintro e w5 ⟨v5, rfl, ho5, hb5⟩; obtain ⟨p5, n5, c5, rfl⟩ := ho5.by_.sl; have z0 := conv_at ho5.by_; have z1 := conv_by ho5.by_; have u0 := conv_at (HVR.out.below (show Below wr.heap.size wr w5 from (bdrew wr 1).trans hb5)); have HB5 := hide (show Below wr.heap.size wr w5 from (bdrew wr 1).trans hb5); clear ho5 hb5))
          all_goals
            go_wp2
            go_ret2
            rw [HRES.out]
            exact ⟨gx, _, rfl, HRT.out.below HB5.out, HGL2.out, HBW.out.trans (HB5.out.mono HBW.out.size)⟩
        · have heq : ((str (imgT L)).toList == (str l).toList) = false := by rw [str_beq]; exact decide_eq_false hq
          have HRES := hide (HOF.out.trans (if_neg hq))
          clear hq
          go_region_with (first | (go_at_call 23; refine (HIM.out 1).mono ?_; rintro e w5 ⟨v5, rfl, ho5, hb5⟩; obtain ⟨p5, n5, c5, rfl⟩ := ho5.by_.sl; have z0 := conv_at ho5.by_; have z1 := conv_by ho5.by_; have u0 := conv_at (HVR.out.below (show Below wr.heap.size wr w5 from (bdrew wr 1).trans hb5)); have HB5 := hide (show Below wr.heap.size wr w5 from (bdrew wr 1).trans hb5); clear ho5 hb5))
          all_goals
            go_wp2
            go_ret2
            rw [HRES.out]
            exact ⟨rfl, HBW.out.trans (HB5.out.mono HBW.out.size)⟩
end Go.Proofs.Ytfbndbmhnpleoaa
