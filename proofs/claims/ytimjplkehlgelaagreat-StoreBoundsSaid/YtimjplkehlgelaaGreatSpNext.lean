/- The span whose bytes come next. -/
import Derived.Test.YtimjplkehlgelaaGreatSp1
namespace Go.Proofs.YtimjplkehlgelaaGreat
set_option linter.unusedVariables false
set_option linter.unusedSimpArgs false
open Go.RowKit

theorem nx_le {l : List UInt8} {st : Nat × Nat} (h : st.1 ≤ l.length) : (nx l st).2.1 ≤ l.length ∧ (nx l st).1 < 9223372036854775808 := by
  unfold nx
  split
  · exact ⟨h, by show (0 : Nat) < _; decide⟩
  · obtain ⟨n, k, e, hR⟩ : ∃ n k e, readNum (l.drop st.1) = (n, k, e) := ⟨_, _, _, rfl⟩
    rw [hR]
    have := readNum_any hR
    rw [List.length_drop] at this
    dsimp only
    omega
theorem tx_le {l : List UInt8} {most : Nat} {st : Nat × Nat} (h : st.1 ≤ l.length) : (tx l most st).2.1 ≤ l.length := by
  unfold tx
  split
  · exact h
  · split
    · exact h
    · split
      · exact h
      · split
        · exact h
        · dsimp only; omega
theorem tx_text {l : List UInt8} {most a E : Nat} : tx l most (a, E) = if E ≠ 0 then ([], a, E) else textP l a most := rfl
theorem nextS_le {l : List UInt8} {st : Nat × Nat} (h : st.1 ≤ l.length) : (nextS l st).2.1 ≤ l.length := by
  unfold nextS
  dsimp only
  exact tx_le (nx_le (nx_le (nx_le (nx_le (nx_le h).1).1).1).1).1
theorem tx_len {l : List UInt8} {most : Nat} {st : Nat × Nat} : (tx l most st).1.length ≤ most := by
  unfold tx
  split
  · simp
  · split
    · simp
    · split
      · simp
      · split
        · simp
        · dsimp only
          rw [List.length_take]
          omega

theorem grown_set_new {w w' : World} {row : Option Nat} (h : w.grownBy w' row) {b i : Nat} {x : Value} (hb : w.heap.size ≤ b) : w.grownBy (w'.setCell ⟨b, i, none⟩ x) row :=
  ⟨h.os, h.tape, h.output, by have := h.size; simpa [World.setCell] using this, fun k hk hne => (heap_setCell_other w' ⟨b, i, none⟩ k _ (by simp; omega)).trans (h.block k hk hne)⟩
theorem lt_of_heap {w : World} {b : Nat} {o : Obj} (h : w.heap[b]? = some o) : b < w.heap.size := (Array.getElem?_eq_some_iff.1 h).1

set_option maxRecDepth 200000 in
set_option maxHeartbeats 2000000 in
/-- span.next. -/
theorem next_any {w : World} {g : Nat} {p : Option Addr} {n c : Nat} {st : Nat × Nat} {l : List UInt8} (hS : Sc w g (.slice p n c) st.1 st.2) (hby : By w (.slice p n c) l) (hne : l = [] ∨ ∀ k, (Value.slice p n c).ownBlock = some k → some g ≠ some k) (hat : st.1 ≤ n) :
    Calls Tryz.prog 99 #[.pointer (some ⟨g, 0, none⟩)] w (ScPost w g (.slice p n c) (nextS l st).2.1 (nextS l st).2.2 (spV (nextS l st).1)) := by
  have hn := hby.len.1
  have hlt := hS.lt
  obtain ⟨a0, E0⟩ := st
  dsimp only at hS hat
  obtain ⟨X, hX⟩ : ∃ X, w.alloc (.cells #[.int .i64 0, .int .i64 0, .int .i64 0, .int .i64 0, .int .i64 0, .string ⟨#[]⟩] 38) = X := ⟨_, rfl⟩
  have hXb : Below w.heap.size w X := by rw [← hX]; exact (Below.refl _ _).alloc (Nat.le_refl _) _
  have hb0 : X.heap[w.heap.size]? = some (.cells #[.int .i64 0, .int .i64 0, .int .i64 0, .int .i64 0, .int .i64 0, .string ⟨#[]⟩] 38 (0, 0)) := by
    rw [← hX]
    exact heap_alloc_new w _
  have hSX : Sc X g (.slice p n c) a0 E0 := by
    have := hXb.block g hlt
    unfold Sc at hS ⊢
    rw [this]
    exact hS
  have hBX := hby.below hXb
  have hgX : w.grownBy X (some g) := ⟨hXb.os, hXb.tape, hXb.output, hXb.size, fun k hk _ => hXb.block k hk⟩
  obtain ⟨n1, a1, E1, h1⟩ : ∃ n a E, nx l (a0, E0) = (n, a, E) := ⟨_, _, _, rfl⟩
  obtain ⟨n2, a2, E2, h2⟩ : ∃ n a E, nx l (a1, E1) = (n, a, E) := ⟨_, _, _, rfl⟩
  obtain ⟨n3, a3, E3, h3⟩ : ∃ n a E, nx l (a2, E2) = (n, a, E) := ⟨_, _, _, rfl⟩
  obtain ⟨n4, a4, E4, h4⟩ : ∃ n a E, nx l (a3, E3) = (n, a, E) := ⟨_, _, _, rfl⟩
  obtain ⟨n5, a5, E5, h5⟩ : ∃ n a E, nx l (a4, E4) = (n, a, E) := ⟨_, _, _, rfl⟩
  obtain ⟨T6, a6, E6, h6⟩ : ∃ n a E, tx l 32 (a5, E5) = (n, a, E) := ⟨_, _, _, rfl⟩
  have hnx : nextS l (a0, E0) = (⟨n1, n2, n3, n4, sumW n4 n5, ⟨T6.toArray⟩⟩, a6, E6) := by
    unfold nextS
    rw [h1]; dsimp only
    rw [h2]; dsimp only
    rw [h3]; dsimp only
    rw [h4]; dsimp only
    rw [h5]; dsimp only
    rw [h6]
  rw [hnx]
  unfold spV
  dsimp only
  obtain ⟨sm, hsm⟩ : ∃ sm, IntKind.i64.wrap ((n4 : Int) + (n5 : Int)) = sm := ⟨_, rfl⟩
  rw [show sumW n4 n5 = sm from hsm]
  have l1 : a1 ≤ n := by have := (nx_le (l := l) (st := (a0, E0)) (by dsimp only; omega)).1; rw [h1] at this; dsimp only at this; omega
  have l2 : a2 ≤ n := by have := (nx_le (l := l) (st := (a1, E1)) (by dsimp only; omega)).1; rw [h2] at this; dsimp only at this; omega
  have l3 : a3 ≤ n := by have := (nx_le (l := l) (st := (a2, E2)) (by dsimp only; omega)).1; rw [h3] at this; dsimp only at this; omega
  have l4 : a4 ≤ n := by have := (nx_le (l := l) (st := (a3, E3)) (by dsimp only; omega)).1; rw [h4] at this; dsimp only at this; omega
  have l5 : a5 ≤ n := by have := (nx_le (l := l) (st := (a4, E4)) (by dsimp only; omega)).1; rw [h5] at this; dsimp only at this; omega
  have HH := hide (And.intro h1 (And.intro h2 (And.intro h3 (And.intro h4 (And.intro h5 h6)))))
  have HNE := hide hne
  have HS0 := hide (And.intro hSX hBX)
  have HG0 := hide hgX
  have HBL := hide hb0
  have HLT := hide hlt
  have HN := hide hn
  have HXS := hide (show w.heap.size < X.heap.size by rw [← hX]; simp)
  clear h1 h2 h3 h4 h5 h6 hne hSX hBX hgX hb0 hS hby hXb hlt hn hnx
  go_enter Tryz.func99, Tryz.ntmps99
  go_wp2_with fail
  clear hX
  refine (scanNumber_any HS0.out.1 HS0.out.2 hat (show _ = (n1, a1, E1) from HH.out.1)).mono ?_
  rintro e1 w1 ⟨rfl, hs1, hg1⟩
  have HS1 := hide (And.intro hs1 (HS0.out.2.grown hg1 HNE.out))
  have HG1 := hide hg1
  clear hs1 hg1
  go_wp2_with fail
  refine (scanNumber_any HS1.out.1 HS1.out.2 l1 (show _ = (n2, a2, E2) from HH.out.2.1)).mono ?_
  rintro e2 w2 ⟨rfl, hs2, hg2⟩
  have HS2 := hide (And.intro hs2 (HS1.out.2.grown hg2 HNE.out))
  have HG2 := hide (gtrans HG1.out hg2)
  clear hs2 hg2
  go_wp2_with fail
  refine (scanNumber_any HS2.out.1 HS2.out.2 l2 (show _ = (n3, a3, E3) from HH.out.2.2.1)).mono ?_
  rintro e3 w3 ⟨rfl, hs3, hg3⟩
  have HS3 := hide (And.intro hs3 (HS2.out.2.grown hg3 HNE.out))
  have HG3 := hide (gtrans HG2.out hg3)
  clear hs3 hg3
  go_wp2_with fail
  refine (scanNumber_any HS3.out.1 HS3.out.2 l3 (show _ = (n4, a4, E4) from HH.out.2.2.2.1)).mono ?_
  rintro e4 w4 ⟨rfl, hs4, hg4⟩
  have HS4 := hide (And.intro hs4 (HS3.out.2.grown hg4 HNE.out))
  have hG4 := gtrans HG3.out hg4
  have hq0 := (hG4.block w.heap.size HXS.out (by have := HLT.out; intro e; injection e with e; omega)).trans HBL.out
  have HG4 := hide hG4
  have HQ := hide hq0
  clear hs4 hg4 hG4 hq0
  go_wp2_with fail
  obtain ⟨b, hb⟩ : ∃ b, w4.heap.size = b := ⟨_, rfl⟩
  obtain ⟨Y, hY⟩ : ∃ Y, w4.alloc (.cells #[.int .i64 (n1 : Int), .int .i64 (n2 : Int), .int .i64 (n3 : Int), .int .i64 (n4 : Int), .int .i64 0, .string ⟨#[]⟩] 38) = Y := ⟨_, rfl⟩
  have hyb : Y.heap[b]? = some (.cells #[.int .i64 (n1 : Int), .int .i64 (n2 : Int), .int .i64 (n3 : Int), .int .i64 (n4 : Int), .int .i64 0, .string ⟨#[]⟩] 38 (0, 0)) := by
    rw [← hY, ← hb]
    exact heap_alloc_new w4 _
  have hyB : Below w4.heap.size w4 Y := by rw [← hY]; exact (Below.refl _ _).alloc (Nat.le_refl _) _
  have hyS : Sc Y g (.slice p n c) a4 E4 := by
    have := hyB.block g HS4.out.1.lt
    have h2 := HS4.out.1
    unfold Sc at h2 ⊢
    rw [this]
    exact h2
  have hyby := HS4.out.2.below hyB
  have hyG : w4.grownBy Y (some g) := ⟨hyB.os, hyB.tape, hyB.output, hyB.size, fun k hk _ => hyB.block k hk⟩
  have hgb : some b ≠ some g := by
    have := HS4.out.1.lt
    intro e
    injection e with e
    omega
  have hneb : l = [] ∨ ∀ k, (Value.slice p n c).ownBlock = some k → some b ≠ some k := by
    cases hl : l with
    | nil => exact .inl rfl
    | cons y r =>
      refine .inr fun k hk e => ?_
      injection e with e
      have hbb := HS4.out.2
      obtain ⟨p', c', e2, _, _, _, hc⟩ := hbb
      injection e2 with e2
      subst e2
      cases p with
      | none => cases hk
      | some ad =>
        simp only [Value.ownBlock, Option.some.injEq] at hk
        have := lt_of_cell (hc ad rfl 0 y (by rw [hl]; rfl))
        rw [block_add] at this
        omega
  have HNEB := hide hneb
  have HGB := hide hgb
  have HYB := hide hyb
  have HYG := hide (gtrans HG4.out hyG)
  have HBB := hide (show X.heap.size ≤ b by rw [← hb]; exact HG4.out.size)
  have hf : ∀ V, (∃ q, V = Y.drewN q) → Calls Tryz.prog 75 #[.pointer (some ⟨g, 0, none⟩)] V fun e w' => e = .returned (.int .i64 (n5 : Int)) ∧ Hid (Sc w' g (.slice p n c) a5 E5) ∧ Hid (Y.grownBy w' (some g)) := by
    rintro V ⟨q, rfl⟩
    refine (scanNumber_any (w := Y.drewN q) (show Sc (Y.drewN q) g _ a4 E4 from hyS) (hyby.drewN q) l4 (show _ = (n5, a5, E5) from HH.out.2.2.2.2.1)).mono fun e w' ⟨he, h1, h2⟩ => ⟨he, hide h1, hide ⟨h2.os, h2.tape, h2.output, h2.size, h2.block⟩⟩
  have y3 : ∀ q, (Y.drewN q).cell? ⟨b, 3, none⟩ = some (.int .i64 (n4 : Int)) := fun q => by rw [World.cell?_drewN, cell_of_row Y b 3 _ 38 (0, 0) hyb]; rfl
  have y3' : Y.cell? ⟨b, 3, none⟩ = some (.int .i64 (n4 : Int)) := y3 0
  clear y3
  have HF := hide hf
  have HY3 := hide hyby
  clear hyb hyB hyS hyG hgb hf hyby hneb
  rw [hY, hb]
  clear hY
  have HB4 := hide hb
  clear hb
  go_region_with (first
    | (go_at_call 75; refine (HF.out _ (by first | exact ⟨_, rfl⟩ | exact ⟨0, rfl⟩ | exact ⟨1, rfl⟩)).mono ?_; rintro e5 w5 ⟨rfl, hs5, hg5⟩; have hw5 := (hg5.out.block b (lt_of_cell y3') HGB.out).trans HYB.out; have z3 : w5.cell? ⟨b, 3, none⟩ = some (.int .i64 (n4 : Int)) := (cell_of_row w5 b 3 _ 38 (0, 0) hw5); have f4 : w5.frozen? ⟨b, 4, none⟩ = false := frozen_of_row w5 b 4 _ 38 hw5; have z4 : w5.cell? ⟨b, 4, none⟩ = some (.int .i64 0) := (cell_of_row w5 b 4 _ 38 (0, 0) hw5); have HW5 := hide hw5; clear hw5))
  all_goals
    obtain ⟨Z6, hZ6⟩ : ∃ Z6, w5.setCell ⟨b, 4, none⟩ (.int .i64 sm) = Z6 := ⟨_, rfl⟩
    have hz6 : Z6.heap[b]? = some (.cells #[.int .i64 (n1 : Int), .int .i64 (n2 : Int), .int .i64 (n3 : Int), .int .i64 (n4 : Int), .int .i64 sm, .string ⟨#[]⟩] 38 (0, 0)) := by
      rw [← hZ6, heap_setCell_same w5 b 4 _ 38 (.int .i64 sm) HW5.out]
      rfl
    have hg6 : w5.grownBy Z6 (some b) := by rw [← hZ6]; exact grown_set _ _ _ _
    have hs6 : Sc Z6 g (.slice p n c) a5 E5 := by
      have h1 := hs5.out
      unfold Sc at h1 ⊢
      rw [hg6.block g (hs5.out.lt) (fun e => HGB.out e.symm)]
      exact h1
    have hby6 := (HY3.out.grown hg5.out HNE.out).grown hg6 HNEB.out
    have hgw6 : w.grownBy Z6 (some g) := by
      rw [← hZ6]
      exact grown_set_new (gtrans HG0.out (gtrans HYG.out hg5.out)) (Nat.le_trans (Nat.le_of_lt HXS.out) HBB.out)
    have hr6 : Z6.heap[w.heap.size]? = some (.cells #[.int .i64 0, .int .i64 0, .int .i64 0, .int .i64 0, .int .i64 0, .string ⟨#[]⟩] 38 (0, 0)) := by
      have hlr : w.heap.size < X.heap.size := HXS.out
      have hne : some w.heap.size ≠ some g := by have := HLT.out; intro e; injection e with e; omega
      rw [hg6.block w.heap.size (Nat.lt_of_lt_of_le hlr (Nat.le_trans HYG.out.size hg5.out.size)) (by have := HBB.out; intro e; injection e with e; omega), hg5.out.block w.heap.size (Nat.lt_of_lt_of_le hlr HYG.out.size) hne, HYG.out.block w.heap.size hlr hne]
      exact HBL.out
    have HS6 := hide (And.intro hs6 hby6)
    have HG6 := hide hgw6
    have HR6 := hide hr6
    have HZ6 := hide hz6
    rw [hZ6]
    clear hZ6 hz6 hg6 hs6 hby6 hgw6 hr6 hs5 hg5 HW5
    go_wp2_with fail
    refine (scanText_any HS6.out.1 HS6.out.2 HNE.out l5 32 32 (by decide) (T := T6) (A := a6) (E := E6) (by have := HH.out.2.2.2.2.2; rw [tx_text] at this; exact this)).mono ?_
    rintro e7 w7 ⟨rfl, hs7, hg7⟩
    have hne : some w.heap.size ≠ some g := by have := HLT.out; intro e; injection e with e; omega
    have hb7 := (hg7.block b (lt_of_heap HZ6.out) HGB.out).trans HZ6.out
    have hr7 := (hg7.block w.heap.size (lt_of_heap HR6.out) hne).trans HR6.out
    have fb := frozen_of_row w7 b 5 _ 38 hb7
    have zb : w7.cell? ⟨b, 5, none⟩ = some (.string ⟨#[]⟩) := cell_of_row w7 b 5 _ 38 (0, 0) hb7
    obtain ⟨Z8, hZ8⟩ : ∃ Z8, w7.setCell ⟨b, 5, none⟩ (.string (str T6)) = Z8 := ⟨_, rfl⟩
    have hb8 : Z8.heap[b]? = some (.cells #[.int .i64 (n1 : Int), .int .i64 (n2 : Int), .int .i64 (n3 : Int), .int .i64 (n4 : Int), .int .i64 sm, .string (str T6)] 38 (0, 0)) := by
      rw [← hZ8, heap_setCell_same w7 b 5 _ 38 (.string (str T6)) hb7]
      rfl
    have hg8 : w7.grownBy Z8 (some b) := by rw [← hZ8]; exact grown_set _ _ _ _
    have hr8 := (hg8.block w.heap.size (lt_of_heap hr7) (by have := HBB.out; have := HXS.out; intro e; injection e with e; omega)).trans hr7
    have hs8 : Sc Z8 g (.slice p n c) a6 E6 := by
      have h1 := hs7
      unfold Sc at h1 ⊢
      rw [hg8.block g (hs7.lt) (fun e => HGB.out e.symm)]
      exact h1
    have hgw8 : w.grownBy Z8 (some g) := by
      rw [← hZ8]
      exact grown_set_new (gtrans HG6.out hg7) (Nat.le_trans (Nat.le_of_lt HXS.out) HBB.out)
    obtain ⟨r, hr⟩ : ∃ r, w.heap.size = r := ⟨_, rfl⟩
    rw [hr] at hr8
    have k0 : Z8.cell? ⟨b, 0, none⟩ = some (.int .i64 (n1 : Int)) := cell_of_row Z8 b 0 _ 38 (0, 0) hb8
    have k1 : Z8.cell? ⟨b, 1, none⟩ = some (.int .i64 (n2 : Int)) := cell_of_row Z8 b 1 _ 38 (0, 0) hb8
    have k2 : Z8.cell? ⟨b, 2, none⟩ = some (.int .i64 (n3 : Int)) := cell_of_row Z8 b 2 _ 38 (0, 0) hb8
    have k3 : Z8.cell? ⟨b, 3, none⟩ = some (.int .i64 (n4 : Int)) := cell_of_row Z8 b 3 _ 38 (0, 0) hb8
    have k4 : Z8.cell? ⟨b, 4, none⟩ = some (.int .i64 sm) := cell_of_row Z8 b 4 _ 38 (0, 0) hb8
    have k5 : Z8.cell? ⟨b, 5, none⟩ = some (.string (str T6)) := cell_of_row Z8 b 5 _ 38 (0, 0) hb8
    have j0 : Z8.cell? ⟨r, 0, none⟩ = some (.int .i64 0) := cell_of_row Z8 r 0 _ 38 (0, 0) hr8
    have j1 : Z8.cell? ⟨r, 1, none⟩ = some (.int .i64 0) := cell_of_row Z8 r 1 _ 38 (0, 0) hr8
    have j2 : Z8.cell? ⟨r, 2, none⟩ = some (.int .i64 0) := cell_of_row Z8 r 2 _ 38 (0, 0) hr8
    have j3 : Z8.cell? ⟨r, 3, none⟩ = some (.int .i64 0) := cell_of_row Z8 r 3 _ 38 (0, 0) hr8
    have j4 : Z8.cell? ⟨r, 4, none⟩ = some (.int .i64 0) := cell_of_row Z8 r 4 _ 38 (0, 0) hr8
    have j5 : Z8.cell? ⟨r, 5, none⟩ = some (.string ⟨#[]⟩) := cell_of_row Z8 r 5 _ 38 (0, 0) hr8
    have fr0 := frozen_of_row Z8 r 0 _ 38 hr8
    have fr1 := frozen_of_row Z8 r 1 _ 38 hr8
    have fr2 := frozen_of_row Z8 r 2 _ 38 hr8
    have fr3 := frozen_of_row Z8 r 3 _ 38 hr8
    have fr4 := frozen_of_row Z8 r 4 _ 38 hr8
    have fr5 := frozen_of_row Z8 r 5 _ 38 hr8
    have HS8 := hide hs8
    have HG8 := hide hgw8
    have HRR := hide hr
    have HLG := hide (show g < r by rw [← hr]; exact HLT.out)
    have HB8 := hide hr8
    rw [hr]
    clear hs7 hg7 hb7 hr7 hne hs8 hgw8 hb8 hg8 hr8 hr
    go_wp2_with fail
    refine bodyPost_ret (v := .agg #[.int .i64 (n1 : Int), .int .i64 (n2 : Int), .int .i64 (n3 : Int), .int .i64 (n4 : Int), .int .i64 sm, .string (str T6)]) (by
      have q0 := heap_setCell_same Z8 r 0 _ 38 (.int .i64 (n1 : Int)) HB8.out
      have q1 := heap_setCell_same _ r 1 _ 38 (.int .i64 (n2 : Int)) q0
      have q2 := heap_setCell_same _ r 2 _ 38 (.int .i64 (n3 : Int)) q1
      have q3 := heap_setCell_same _ r 3 _ 38 (.int .i64 (n4 : Int)) q2
      have q4 := heap_setCell_same _ r 4 _ 38 (.int .i64 sm) q3
      have q5 := heap_setCell_same _ r 5 _ 38 (.string (str T6)) q4
      generalize (((((Z8.setCell ⟨r, 0, none⟩ (.int .i64 (n1 : Int))).setCell ⟨r, 1, none⟩ (.int .i64 (n2 : Int))).setCell ⟨r, 2, none⟩ (.int .i64 (n3 : Int))).setCell ⟨r, 3, none⟩ (.int .i64 (n4 : Int))).setCell ⟨r, 4, none⟩ (.int .i64 sm)).setCell ⟨r, 5, none⟩ (.string (str T6)) = W9 at q5 ⊢
      have m0 : W9.cell? ⟨r, 0, none⟩ = some (.int .i64 (n1 : Int)) := cell_of_row W9 r 0 _ 38 (0, 0) q5
      have m1 : W9.cell? ⟨r, 1, none⟩ = some (.int .i64 (n2 : Int)) := cell_of_row W9 r 1 _ 38 (0, 0) q5
      have m2 : W9.cell? ⟨r, 2, none⟩ = some (.int .i64 (n3 : Int)) := cell_of_row W9 r 2 _ 38 (0, 0) q5
      have m3 : W9.cell? ⟨r, 3, none⟩ = some (.int .i64 (n4 : Int)) := cell_of_row W9 r 3 _ 38 (0, 0) q5
      have m4 : W9.cell? ⟨r, 4, none⟩ = some (.int .i64 sm) := cell_of_row W9 r 4 _ 38 (0, 0) q5
      have m5 : W9.cell? ⟨r, 5, none⟩ = some (.string (str T6)) := cell_of_row W9 r 5 _ 38 (0, 0) q5
      clear q0 q1 q2 q3 q4 q5
      simp [results, Tryz.results99, go_sem, m0, m1, m2, m3, m4, m5]) rfl ⟨by rw [str_eq], ?_, ?_⟩
    · have h1 := HS8.out
      have hlg := HLG.out
      unfold Sc at h1 ⊢
      rw [heap_setCell_other _ ⟨r, 5, none⟩ g _ (by simp; omega), heap_setCell_other _ ⟨r, 4, none⟩ g _ (by simp; omega), heap_setCell_other _ ⟨r, 3, none⟩ g _ (by simp; omega), heap_setCell_other _ ⟨r, 2, none⟩ g _ (by simp; omega), heap_setCell_other _ ⟨r, 1, none⟩ g _ (by simp; omega), heap_setCell_other _ ⟨r, 0, none⟩ g _ (by simp; omega)]
      exact h1
    · have hrr := HRR.out
      exact grown_set_new (grown_set_new (grown_set_new (grown_set_new (grown_set_new (grown_set_new HG8.out (by omega)) (by omega)) (by omega)) (by omega)) (by omega)) (by omega)
end Go.Proofs.YtimjplkehlgelaaGreat
