import Derived.Deep.RegionHeld3
import Derived.Deep.DrawnRows
import Derived.Test.YtionbmlicmibgaaGreatDoorS2
import Derived.Test.YtionbmlicmibgaaGreatDoorS3
import Derived.Test.YtionbmlicmibgaaGreatDoorS1
namespace Go.Proofs.YtionbmlicmibgaaGreatDoor
set_option linter.unusedVariables false
set_option linter.unusedSimpArgs false
open Go.RowKit
theorem nx_le {l : List UInt8} {st : Nat × Nat} (h : st.1 ≤ l.length) : (nx l st).2.1 ≤ l.length ∧ (nx l st).1 < 9223372036854775808 := by
 unfold nx
 split
 ·exact ⟨h, by show (0 : Nat) < _; decide⟩
 ·obtain ⟨n, k, e, hR⟩ : ∃ n k e, readNum (l.drop st.1) = (n, k, e) := ⟨_, _, _, rfl⟩
  rw [hR]
  have := readNum_any hR
  rw [List.length_drop] at this
  dsimp only
  omega
theorem tx_le {l : List UInt8} {most : Nat} {st : Nat × Nat} (h : st.1 ≤ l.length) : (tx l most st).2.1 ≤ l.length := by
 unfold tx
 split
 ·exact h
 ·split
  ·exact h
  ·split
   ·exact h
   ·split
    ·exact h
    ·dsimp only; omega
theorem tx_text {l : List UInt8} {most a E : Nat} : tx l most (a, E) = if E ≠ 0 then ([], a, E) else textP l a most := rfl
theorem nextS_le {l : List UInt8} {st : Nat × Nat} (h : st.1 ≤ l.length) : (nextS l st).2.1 ≤ l.length := by
 unfold nextS
 dsimp only
 exact tx_le (nx_le (nx_le (nx_le (nx_le (nx_le h).1).1).1).1).1
theorem tx_len {l : List UInt8} {most : Nat} {st : Nat × Nat} : (tx l most st).1.length ≤ most := by
 unfold tx
 split
 ·simp
 ·split
  ·simp
  ·split
   ·simp
   ·split
    ·simp
    ·dsimp only
     rw [List.length_take]
     omega
theorem grown_set_new {w w' : World} {row : Option Nat} (h : w.grownBy w' row) {b i : Nat} {x : Value} (hb : w.heap.size ≤ b) : w.grownBy (w'.setCell ⟨b, i, none⟩ x) row :=
 ⟨h.os, h.tape, h.output, by have := h.size; simpa [World.setCell] using this, fun k hk hne => (heap_setCell_other w' ⟨b, i, none⟩ k _ (by simp; omega)).trans (h.block k hk hne)⟩
theorem lt_of_heap {w : World} {b : Nat} {o : Obj} (h : w.heap[b]? = some o) : b < w.heap.size := (Array.getElem?_eq_some_iff.1 h).1
set_option maxRecDepth 200000 in
set_option maxHeartbeats 2000000 in
theorem next_any {w : World} {g : Nat} {p : Option Addr} {n c : Nat} {st : Nat × Nat} {l : List UInt8} (hS : Sc w g (.slice p n c) st.1 st.2) (hby : By w (.slice p n c) l) (hne : l = [] ∨ ∀ k, (Value.slice p n c).ownBlock = some k → some g ≠ some k) (hat : st.1 ≤ n) :
  Calls Tryz.prog 143 #[.pointer (some ⟨g, 0, none⟩)] w (ScPost w g (.slice p n c) (nextS l st).2.1 (nextS l st).2.2 (spV (nextS l st).1)) := by
 have hn := hby.len.1
 have hlt := hS.lt
 obtain ⟨a0, E0⟩ := st
 dsimp only at hS hat
 obtain ⟨X, hX⟩ : ∃ X, w.alloc (.cells #[.int .i64 0, .int .i64 0, .int .i64 0, .int .i64 0, .int .i64 0, .string ⟨#[]⟩] 30) = X := ⟨_, rfl⟩
 have hXb : Below w.heap.size w X := by rw [← hX]; exact (Below.refl _ _).alloc (Nat.le_refl _) _
 have hb0 : X.heap[w.heap.size]? = some (.cells #[.int .i64 0, .int .i64 0, .int .i64 0, .int .i64 0, .int .i64 0, .string ⟨#[]⟩] 30 (0, 0)) := by
  rw [← hX]
  exact heap_alloc_new w _
 have hSX : Sc X g (.slice p n c) a0 E0 := by
  have := hXb.block g hlt
  unfold Sc at hS ⊢
  rw [this]
  exact hS
 have hBX := hby.below hXb
 have hgX : w.grownBy X (some g) := ⟨hXb.os, hXb.tape, hXb.output, hXb.size, fun k hk _ => hXb.block k hk⟩
 obtain ⟨n1, a1, E1, h1⟩ : ∃ n a E, nx l (a0, E0) = (n, a, E) := ⟨_, _, _, rfl⟩
 obtain ⟨n2, a2, E2, h2⟩ : ∃ n a E, nx l (a1, E1) = (n, a, E) := ⟨_, _, _, rfl⟩
 obtain ⟨n3, a3, E3, h3⟩ : ∃ n a E, nx l (a2, E2) = (n, a, E) := ⟨_, _, _, rfl⟩
 obtain ⟨n4, a4, E4, h4⟩ : ∃ n a E, nx l (a3, E3) = (n, a, E) := ⟨_, _, _, rfl⟩
 obtain ⟨n5, a5, E5, h5⟩ : ∃ n a E, nx l (a4, E4) = (n, a, E) := ⟨_, _, _, rfl⟩
 obtain ⟨T6, a6, E6, h6⟩ : ∃ n a E, tx l 32 (a5, E5) = (n, a, E) := ⟨_, _, _, rfl⟩
 have hnx : nextS l (a0, E0) = (⟨n1, n2, n3, n4, sumW n4 n5, ⟨T6.toArray⟩⟩, a6, E6) := by
  unfold nextS
  rw [h1]; dsimp only
  rw [h2]; dsimp only
  rw [h3]; dsimp only
  rw [h4]; dsimp only
  rw [h5]; dsimp only
  rw [h6]
 rw [hnx]
 unfold spV
 dsimp only
 obtain ⟨sm, hsm⟩ : ∃ sm, IntKind.i64.wrap ((n4 : Int) + (n5 : Int)) = sm := ⟨_, rfl⟩
 rw [show sumW n4 n5 = sm from hsm]
 have l1 : a1 ≤ n := by have := (nx_le (l := l) (st := (a0, E0)) (by dsimp only; omega)).1; rw [h1] at this; dsimp only at this; omega
 have l2 : a2 ≤ n := by have := (nx_le (l := l) (st := (a1, E1)) (by dsimp only; omega)).1; rw [h2] at this; dsimp only at this; omega
 have l3 : a3 ≤ n := by have := (nx_le (l := l) (st := (a2, E2)) (by dsimp only; omega)).1; rw [h3] at this; dsimp only at this; omega
 have l4 : a4 ≤ n := by have := (nx_le (l := l) (st := (a3, E3)) (by dsimp only; omega)).1; rw [h4] at this; dsimp only at this; omega
 have l5 : a5 ≤ n := by have := (nx_le (l := l) (st := (a4, E4)) (by dsimp only; omega)).1; rw [h5] at this; dsimp only at this; omega
 have HH := hide (And.intro h1 (And.intro h2 (And.intro h3 (And.intro h4 (And.intro h5 h6)))))
 have HNE := hide hne
 have HS0 := hide (And.intro hSX hBX)
 have HG0 := hide hgX
 have HBL := hide hb0
 have HLT := hide hlt
 have HN := hide hn
 have HXS := hide (show w.heap.size < X.heap.size by rw [← hX]; simp)
 clear h1 h2 h3 h4 h5 h6 hne hSX hBX hgX hb0 hS hby hXb hlt hn hnx
 go_enter Tryz.func143, Tryz.ntmps143
 go_wp2_with fail
 clear hX
 refine (scanNumber_any HS0.out.1 HS0.out.2 hat (show _ = (n1, a1, E1) from HH.out.1)).mono ?_
 rintro e1 w1 ⟨rfl, hs1, hg1⟩
 have HS1 := hide (And.intro hs1 (HS0.out.2.grown hg1 HNE.out))
 have HG1 := hide hg1
 clear hs1 hg1
 go_wp2_with fail
 refine (scanNumber_any HS1.out.1 HS1.out.2 l1 (show _ = (n2, a2, E2) from HH.out.2.1)).mono ?_
 rintro e2 w2 ⟨rfl, hs2, hg2⟩
 have HS2 := hide (And.intro hs2 (HS1.out.2.grown hg2 HNE.out))
 have HG2 := hide (gtrans HG1.out hg2)
 clear hs2 hg2
 go_wp2_with fail
 refine (scanNumber_any HS2.out.1 HS2.out.2 l2 (show _ = (n3, a3, E3) from HH.out.2.2.1)).mono ?_
 rintro e3 w3 ⟨rfl, hs3, hg3⟩
 have HS3 := hide (And.intro hs3 (HS2.out.2.grown hg3 HNE.out))
 have HG3 := hide (gtrans HG2.out hg3)
 clear hs3 hg3
 go_wp2_with fail
 refine (scanNumber_any HS3.out.1 HS3.out.2 l3 (show _ = (n4, a4, E4) from HH.out.2.2.2.1)).mono ?_
 rintro e4 w4 ⟨rfl, hs4, hg4⟩
 have HS4 := hide (And.intro hs4 (HS3.out.2.grown hg4 HNE.out))
 have hG4 := gtrans HG3.out hg4
 have hq0 := (hG4.block w.heap.size HXS.out (by have := HLT.out; intro e; injection e with e; omega)).trans HBL.out
 have HG4 := hide hG4
 have HQ := hide hq0
 clear hs4 hg4 hG4 hq0
 go_wp2_with fail
 obtain ⟨b, hb⟩ : ∃ b, w4.heap.size = b := ⟨_, rfl⟩
 obtain ⟨Y, hY⟩ : ∃ Y, w4.alloc (.cells #[.int .i64 (n1 : Int), .int .i64 (n2 : Int), .int .i64 (n3 : Int), .int .i64 (n4 : Int), .int .i64 0, .string ⟨#[]⟩] 30) = Y := ⟨_, rfl⟩
 have hyb : Y.heap[b]? = some (.cells #[.int .i64 (n1 : Int), .int .i64 (n2 : Int), .int .i64 (n3 : Int), .int .i64 (n4 : Int), .int .i64 0, .string ⟨#[]⟩] 30 (0, 0)) := by
  rw [← hY, ← hb]
  exact heap_alloc_new w4 _
 have hyB : Below w4.heap.size w4 Y := by rw [← hY]; exact (Below.refl _ _).alloc (Nat.le_refl _) _
 have hyS : Sc Y g (.slice p n c) a4 E4 := by
  have := hyB.block g HS4.out.1.lt
  have h2 := HS4.out.1
  unfold Sc at h2 ⊢
  rw [this]
  exact h2
 have hyby := HS4.out.2.below hyB
 have hyG : w4.grownBy Y (some g) := ⟨hyB.os, hyB.tape, hyB.output, hyB.size, fun k hk _ => hyB.block k hk⟩
 have hgb : some b ≠ some g := by
  have := HS4.out.1.lt
  intro e
  injection e with e
  omega
 have hneb : l = [] ∨ ∀ k, (Value.slice p n c).ownBlock = some k → some b ≠ some k := by
  cases hl : l with
  | nil => exact .inl rfl
  | cons y r =>
   refine .inr fun k hk e => ?_
   injection e with e
   have hbb := HS4.out.2
   obtain ⟨p', c', e2, _, _, _, hc⟩ := hbb
   injection e2 with e2
   subst e2
   cases p with
   | none => cases hk
   | some ad =>
    simp only [Value.ownBlock, Option.some.injEq] at hk
    have := lt_of_cell (hc ad rfl 0 y (by rw [hl]; rfl))
    rw [block_add] at this
    omega
 have HNEB := hide hneb
 have HGB := hide hgb
 have HYB := hide hyb
 have HYG := hide (gtrans HG4.out hyG)
 have HBB := hide (show X.heap.size ≤ b by rw [← hb]; exact HG4.out.size)
 have hf : ∀ V, (∃ q, V = Y.drewN q) → Calls Tryz.prog 105 #[.pointer (some ⟨g, 0, none⟩)] V fun e w' => e = .returned (.int .i64 (n5 : Int)) ∧ Hid (Sc w' g (.slice p n c) a5 E5) ∧ Hid (Y.grownBy w' (some g)) := by
  rintro V ⟨q, rfl⟩
  refine (scanNumber_any (w := Y.drewN q) (show Sc (Y.drewN q) g _ a4 E4 from hyS) (hyby.drewN q) l4 (show _ = (n5, a5, E5) from HH.out.2.2.2.2.1)).mono fun e w' ⟨he, h1, h2⟩ => ⟨he, hide h1, hide ⟨h2.os, h2.tape, h2.output, h2.size, h2.block⟩⟩
 have y3 : ∀ q, (Y.drewN q).cell? ⟨b, 3, none⟩ = some (.int .i64 (n4 : Int)) := fun q => by rw [World.cell?_drewN, cell_of_row Y b 3 _ 30 (0, 0) hyb]; rfl
 have y3' : Y.cell? ⟨b, 3, none⟩ = some (.int .i64 (n4 : Int)) := y3 0
 clear y3
 have HF := hide hf
 have HY3 := hide hyby
 clear hyb hyB hyS hyG hgb hf hyby hneb
 rw [hY, hb]
 clear hY
 have HB4 := hide hb
 clear hb
 go_region_with (first
  | (go_at_call 105; refine (HF.out _ (by first | exact ⟨_, rfl⟩ | exact ⟨0, rfl⟩ | exact ⟨1, rfl⟩)).mono ?_; rintro e5 w5 ⟨rfl, hs5, hg5⟩; have hw5 := (hg5.out.block b (lt_of_cell y3') HGB.out).trans HYB.out; have z3 : w5.cell? ⟨b, 3, none⟩ = some (.int .i64 (n4 : Int)) := (cell_of_row w5 b 3 _ 30 (0, 0) hw5); have f4 : w5.frozen? ⟨b, 4, none⟩ = false := frozen_of_row w5 b 4 _ 30 hw5; have z4 : w5.cell? ⟨b, 4, none⟩ = some (.int .i64 0) := (cell_of_row w5 b 4 _ 30 (0, 0) hw5); have HW5 := hide hw5; clear hw5))
 all_goals
  obtain ⟨Z6, hZ6⟩ : ∃ Z6, w5.setCell ⟨b, 4, none⟩ (.int .i64 sm) = Z6 := ⟨_, rfl⟩
  have hz6 : Z6.heap[b]? = some (.cells #[.int .i64 (n1 : Int), .int .i64 (n2 : Int), .int .i64 (n3 : Int), .int .i64 (n4 : Int), .int .i64 sm, .string ⟨#[]⟩] 30 (0, 0)) := by
   rw [← hZ6, heap_setCell_same w5 b 4 _ 30 (.int .i64 sm) HW5.out]
   rfl
  have hg6 : w5.grownBy Z6 (some b) := by rw [← hZ6]; exact grown_set _ _ _ _
  have hs6 : Sc Z6 g (.slice p n c) a5 E5 := by
   have h1 := hs5.out
   unfold Sc at h1 ⊢
   rw [hg6.block g (hs5.out.lt) (fun e => HGB.out e.symm)]
   exact h1
  have hby6 := (HY3.out.grown hg5.out HNE.out).grown hg6 HNEB.out
  have hgw6 : w.grownBy Z6 (some g) := by
   rw [← hZ6]
   exact grown_set_new (gtrans HG0.out (gtrans HYG.out hg5.out)) (Nat.le_trans (Nat.le_of_lt HXS.out) HBB.out)
  have hr6 : Z6.heap[w.heap.size]? = some (.cells #[.int .i64 0, .int .i64 0, .int .i64 0, .int .i64 0, .int .i64 0, .string ⟨#[]⟩] 30 (0, 0)) := by
   have hlr : w.heap.size < X.heap.size := HXS.out
   have hne : some w.heap.size ≠ some g := by have := HLT.out; intro e; injection e with e; omega
   rw [hg6.block w.heap.size (Nat.lt_of_lt_of_le hlr (Nat.le_trans HYG.out.size hg5.out.size)) (by have := HBB.out; intro e; injection e with e; omega), hg5.out.block w.heap.size (Nat.lt_of_lt_of_le hlr HYG.out.size) hne, HYG.out.block w.heap.size hlr hne]
   exact HBL.out
  have HS6 := hide (And.intro hs6 hby6)
  have HG6 := hide hgw6
  have HR6 := hide hr6
  have HZ6 := hide hz6
  rw [hZ6]
  clear hZ6 hz6 hg6 hs6 hby6 hgw6 hr6 hs5 hg5 HW5
  go_wp2_with fail
  refine (scanText_any HS6.out.1 HS6.out.2 HNE.out l5 32 32 (by decide) (T := T6) (A := a6) (E := E6) (by have := HH.out.2.2.2.2.2; rw [tx_text] at this; exact this)).mono ?_
  rintro e7 w7 ⟨rfl, hs7, hg7⟩
  have hne : some w.heap.size ≠ some g := by have := HLT.out; intro e; injection e with e; omega
  have hb7 := (hg7.block b (lt_of_heap HZ6.out) HGB.out).trans HZ6.out
  have hr7 := (hg7.block w.heap.size (lt_of_heap HR6.out) hne).trans HR6.out
  have fb := frozen_of_row w7 b 5 _ 30 hb7
  have zb : w7.cell? ⟨b, 5, none⟩ = some (.string ⟨#[]⟩) := cell_of_row w7 b 5 _ 30 (0, 0) hb7
  obtain ⟨Z8, hZ8⟩ : ∃ Z8, w7.setCell ⟨b, 5, none⟩ (.string (str T6)) = Z8 := ⟨_, rfl⟩
  have hb8 : Z8.heap[b]? = some (.cells #[.int .i64 (n1 : Int), .int .i64 (n2 : Int), .int .i64 (n3 : Int), .int .i64 (n4 : Int), .int .i64 sm, .string (str T6)] 30 (0, 0)) := by
   rw [← hZ8, heap_setCell_same w7 b 5 _ 30 (.string (str T6)) hb7]
   rfl
  have hg8 : w7.grownBy Z8 (some b) := by rw [← hZ8]; exact grown_set _ _ _ _
  have hr8 := (hg8.block w.heap.size (lt_of_heap hr7) (by have := HBB.out; have := HXS.out; intro e; injection e with e; omega)).trans hr7
  have hs8 : Sc Z8 g (.slice p n c) a6 E6 := by
   have h1 := hs7
   unfold Sc at h1 ⊢
   rw [hg8.block g (hs7.lt) (fun e => HGB.out e.symm)]
   exact h1
  have hgw8 : w.grownBy Z8 (some g) := by
   rw [← hZ8]
   exact grown_set_new (gtrans HG6.out hg7) (Nat.le_trans (Nat.le_of_lt HXS.out) HBB.out)
  obtain ⟨r, hr⟩ : ∃ r, w.heap.size = r := ⟨_, rfl⟩
  rw [hr] at hr8
  have k0 : Z8.cell? ⟨b, 0, none⟩ = some (.int .i64 (n1 : Int)) := cell_of_row Z8 b 0 _ 30 (0, 0) hb8
  have k1 : Z8.cell? ⟨b, 1, none⟩ = some (.int .i64 (n2 : Int)) := cell_of_row Z8 b 1 _ 30 (0, 0) hb8
  have k2 : Z8.cell? ⟨b, 2, none⟩ = some (.int .i64 (n3 : Int)) := cell_of_row Z8 b 2 _ 30 (0, 0) hb8
  have k3 : Z8.cell? ⟨b, 3, none⟩ = some (.int .i64 (n4 : Int)) := cell_of_row Z8 b 3 _ 30 (0, 0) hb8
  have k4 : Z8.cell? ⟨b, 4, none⟩ = some (.int .i64 sm) := cell_of_row Z8 b 4 _ 30 (0, 0) hb8
  have k5 : Z8.cell? ⟨b, 5, none⟩ = some (.string (str T6)) := cell_of_row Z8 b 5 _ 30 (0, 0) hb8
  have j0 : Z8.cell? ⟨r, 0, none⟩ = some (.int .i64 0) := cell_of_row Z8 r 0 _ 30 (0, 0) hr8
  have j1 : Z8.cell? ⟨r, 1, none⟩ = some (.int .i64 0) := cell_of_row Z8 r 1 _ 30 (0, 0) hr8
  have j2 : Z8.cell? ⟨r, 2, none⟩ = some (.int .i64 0) := cell_of_row Z8 r 2 _ 30 (0, 0) hr8
  have j3 : Z8.cell? ⟨r, 3, none⟩ = some (.int .i64 0) := cell_of_row Z8 r 3 _ 30 (0, 0) hr8
  have j4 : Z8.cell? ⟨r, 4, none⟩ = some (.int .i64 0) := cell_of_row Z8 r 4 _ 30 (0, 0) hr8
  have j5 : Z8.cell? ⟨r, 5, none⟩ = some (.string ⟨#[]⟩) := cell_of_row Z8 r 5 _ 30 (0, 0) hr8
  have fr0 := frozen_of_row Z8 r 0 _ 30 hr8
  have fr1 := frozen_of_row Z8 r 1 _ 30 hr8
  have fr2 := frozen_of_row Z8 r 2 _ 30 hr8
  have fr3 := frozen_of_row Z8 r 3 _ 30 hr8
  have fr4 := frozen_of_row Z8 r 4 _ 30 hr8
  have fr5 := frozen_of_row Z8 r 5 _ 30 hr8
  have HS8 := hide hs8
  have HG8 := hide hgw8
  have HRR := hide hr
  have HLG := hide (show g < r by rw [← hr]; exact HLT.out)
  have HB8 := hide hr8
  rw [hr]
  clear hs7 hg7 hb7 hr7 hne hs8 hgw8 hb8 hg8 hr8 hr
  go_wp2_with fail
  refine bodyPost_ret (v := .agg #[.int .i64 (n1 : Int), .int .i64 (n2 : Int), .int .i64 (n3 : Int), .int .i64 (n4 : Int), .int .i64 sm, .string (str T6)]) (by
   have q0 := heap_setCell_same Z8 r 0 _ 30 (.int .i64 (n1 : Int)) HB8.out
   have q1 := heap_setCell_same _ r 1 _ 30 (.int .i64 (n2 : Int)) q0
   have q2 := heap_setCell_same _ r 2 _ 30 (.int .i64 (n3 : Int)) q1
   have q3 := heap_setCell_same _ r 3 _ 30 (.int .i64 (n4 : Int)) q2
   have q4 := heap_setCell_same _ r 4 _ 30 (.int .i64 sm) q3
   have q5 := heap_setCell_same _ r 5 _ 30 (.string (str T6)) q4
   generalize (((((Z8.setCell ⟨r, 0, none⟩ (.int .i64 (n1 : Int))).setCell ⟨r, 1, none⟩ (.int .i64 (n2 : Int))).setCell ⟨r, 2, none⟩ (.int .i64 (n3 : Int))).setCell ⟨r, 3, none⟩ (.int .i64 (n4 : Int))).setCell ⟨r, 4, none⟩ (.int .i64 sm)).setCell ⟨r, 5, none⟩ (.string (str T6)) = W9 at q5 ⊢
   have m0 : W9.cell? ⟨r, 0, none⟩ = some (.int .i64 (n1 : Int)) := cell_of_row W9 r 0 _ 30 (0, 0) q5
   have m1 : W9.cell? ⟨r, 1, none⟩ = some (.int .i64 (n2 : Int)) := cell_of_row W9 r 1 _ 30 (0, 0) q5
   have m2 : W9.cell? ⟨r, 2, none⟩ = some (.int .i64 (n3 : Int)) := cell_of_row W9 r 2 _ 30 (0, 0) q5
   have m3 : W9.cell? ⟨r, 3, none⟩ = some (.int .i64 (n4 : Int)) := cell_of_row W9 r 3 _ 30 (0, 0) q5
   have m4 : W9.cell? ⟨r, 4, none⟩ = some (.int .i64 sm) := cell_of_row W9 r 4 _ 30 (0, 0) q5
   have m5 : W9.cell? ⟨r, 5, none⟩ = some (.string (str T6)) := cell_of_row W9 r 5 _ 30 (0, 0) q5
   clear q0 q1 q2 q3 q4 q5
   simp [results, Tryz.results143, go_sem, m0, m1, m2, m3, m4, m5]) rfl ⟨by rw [str_eq], ?_, ?_⟩
  ·have h1 := HS8.out
   have hlg := HLG.out
   unfold Sc at h1 ⊢
   rw [heap_setCell_other _ ⟨r, 5, none⟩ g _ (by simp; omega), heap_setCell_other _ ⟨r, 4, none⟩ g _ (by simp; omega), heap_setCell_other _ ⟨r, 3, none⟩ g _ (by simp; omega), heap_setCell_other _ ⟨r, 2, none⟩ g _ (by simp; omega), heap_setCell_other _ ⟨r, 1, none⟩ g _ (by simp; omega), heap_setCell_other _ ⟨r, 0, none⟩ g _ (by simp; omega)]
   exact h1
  ·have hrr := HRR.out
   exact grown_set_new (grown_set_new (grown_set_new (grown_set_new (grown_set_new (grown_set_new HG8.out (by omega)) (by omega)) (by omega)) (by omega)) (by omega)) (by omega)
end Go.Proofs.YtionbmlicmibgaaGreatDoor
namespace Go.Proofs.YtionbmlicmibgaaGreatDoor
set_option linter.unusedVariables false
set_option linter.unusedSimpArgs false
open Go.RowKit
theorem nextS_err {l : List UInt8} {a E : Nat} (h : E ≠ 0) : (nextS l (a, E)).1.ok = false := by
 rw [Bool.eq_false_iff]
 intro hok
 rw [Sp.ok_iff] at hok
 have hn := hok.t1
 have hz : (nextS l (a, E)).1.t = 0 := by
  unfold nextS nx
  dsimp only
  rw [if_pos h]
  rfl
 omega
theorem nextS_name (l : List UInt8) (st : Nat × Nat) : (nextS l st).1.n.size ≤ 1100000 := by
 have : (nextS l st).1.n.size = (tx l 32 (nx l (nx l (nx l (nx l (nx l st).2).2).2).2).2).1.length := by
  unfold nextS
  dsimp only
  simp [ByteArray.size]
 rw [this]
 have := tx_len (l := l) (most := 32) (st := (nx l (nx l (nx l (nx l (nx l st).2).2).2).2).2)
 omega
def getT (l : List UInt8) (r : List Sp) (k : Nat) (st : Nat × Nat) : List Sp × Nat :=
 match getG l k st with
 | none => ([], 30)
 | some (r', a, e) => if e = 0 ∧ a = l.length then (r ++ r', 0) else ([], 30)
theorem getP_T (l : List UInt8) : getP l = getT l [] (nx l (0, 0)).1 (nx l (0, 0)).2 := rfl
theorem getT_ok {l : List UInt8} {r : List Sp} {k : Nat} {st : Nat × Nat} (h : (nextS l st).1.ok = true) : getT l r (k + 1) st = getT l (r ++ [(nextS l st).1]) k (nextS l st).2 := by
 unfold getT
 rw [getG, if_pos h]
 cases getG l k (nextS l st).2 with
 | none => rfl
 | some q =>
  obtain ⟨r', a, e⟩ := q
  simp
theorem getT_bad {l : List UInt8} {r : List Sp} {k : Nat} {st : Nat × Nat} (h : (nextS l st).1.ok = false) : getT l r (k + 1) st = ([], 30) := by
 unfold getT
 rw [getG, h]
 rfl
theorem getT_end {l : List UInt8} {r : List Sp} {st : Nat × Nat} : getT l r 0 st = if st.2 = 0 ∧ st.1 = l.length then (r, 0) else ([], 30) := by
 unfold getT
 rw [getG]
 simp
set_option maxRecDepth 200000 in
set_option maxHeartbeats 2000000 in
theorem get_any {w : World} {v : Value} {l : List UInt8} (hv : By w v l) (hl : l.length ≤ 1100000) {R : List Sp} {E : Nat} (hR : getP l = (R, E)) :
  Calls Tryz.prog 106 #[v] w fun e w' => ∃ v', e = .returned (.tuple #[v', .int .i64 (E : Int)]) ∧ OwnS w.heap.size w' v' R ∧ Below w.heap.size w w' := by
 obtain ⟨p, n, c, rfl⟩ := hv.sl
 have HV := hide hv
 have HR := hide hR
 clear hv hR
 go_enter Tryz.func106, Tryz.ntmps106
 go_wp2_with fail
 refine (over_any HV.out (by omega)).mono ?_
 rintro e1 w1 ⟨g, u, rfl, hwg, hs, hu, hne, hb⟩
 obtain ⟨q1, m1, c1, rfl⟩ := hu.by_.sl
 have hm1 := hu.by_.len.1
 have HM1 := hide hm1
 have HU := hide hu
 have HS := hide hs
 have HNE := hide hne
 have HB := hide hb
 have HWG := hide hwg
 clear hu hs hne hb hwg hm1
 obtain ⟨N, a0, E0, hN⟩ : ∃ n a e, nx l (0, 0) = (n, a, e) := ⟨_, _, _, rfl⟩
 have hNl := (nx_le (l := l) (st := (0, 0)) (Nat.zero_le _))
 rw [hN] at hNl
 dsimp only at hNl
 have HNN := hide hN
 clear hN
 go_wp2_with fail
 refine (scanNumber_any HS.out HU.out.by_ (Nat.zero_le _) (show _ = (N, a0, E0) from HNN.out)).mono ?_
 rintro e2 w2 ⟨rfl, hs2, hg2⟩
 have HS2 := hide hs2
 have HG2 := hide hg2
 clear hs2 hg2
 go_wp2_with fail
 have HB1 := hide (show w.heap.size ≤ w1.heap.size from HB.out.size)
 have hug : g < w1.heap.size := HS.out.lt
 have HUG := hide hug
 clear hug
 have hstart : Hid (Sc w2 g (.slice q1 m1 c1) a0 E0 ∧ By w2 (.slice q1 m1 c1) l ∧ OwnS w1.heap.size w2 (.slice none 0 0) [] ∧ Below w.heap.size w w2 ∧ w1.grownBy w2 (some g) ∧ a0 ≤ l.length ∧ ([] : List Sp).length ≤ a0 ∧ getT l [] (N - 0) (a0, E0) = (R, E)) := hide ⟨HS2.out, HU.out.by_.grown HG2.out HNE.out, OwnS.nil _ _, HB.out.grown HG2.out HB1.out (fun k hk => by injection hk with hk; have := HWG.out; omega), HG2.out, hNl.1, Nat.zero_le _, by rw [Nat.sub_zero, ← HR.out, getP_T, HNN.out]⟩
 go_loopw [5, 6, 11] (fun v _ c wr => ∃ (j : Nat) (r : List Sp) (a e : Nat), j ≤ N ∧ c = .int .i64 j ∧ Hid (Sc wr g (.slice q1 m1 c1) a e ∧ By wr (.slice q1 m1 c1) l ∧ OwnS w1.heap.size wr v r ∧ Below w.heap.size w wr ∧ w1.grownBy wr (some g) ∧ a ≤ l.length ∧ r.length ≤ a ∧ getT l r (N - j) (a, e) = (R, E))) (fun _ _ c _ => N - (intOf c).toNat)
 case atStart => exact ⟨0, [], a0, E0, Nat.zero_le _, rfl, hstart⟩
 case round =>
  obtain ⟨j, r, a, e, hj, rfl, H⟩ := hrel
  clear hstart
  by_cases hlt : (j : Int) < (N : Int)
  ·have hnext := next_any (st := (a, e)) H.out.1 H.out.2.1 HNE.out (by have := H.out.2.2.2.2.2.1; have := HM1.out; dsimp only; omega)
   have hnm := nextS_name l (a, e)
   obtain ⟨x, a', e', hx⟩ : ∃ x a' e', nextS l (a, e) = (x, a', e') := ⟨_, _, _, rfl⟩
   have hlx := nextS_le (l := l) (st := (a, e)) H.out.2.2.2.2.2.1
   have hT : (x.ok = true → getT l r (N - j) (a, e) = getT l (r ++ [x]) (N - (j + 1)) (a', e')) ∧ (¬ x.ok = true → (R, E) = ([], 30)) := by
    have e1 : N - j = (N - (j + 1)) + 1 := by omega
    constructor
    ·intro hk
     rw [e1, getT_ok (by rw [hx]; exact hk), hx]
    ·intro hk
     rw [← H.out.2.2.2.2.2.2.2, e1, getT_bad (by rw [hx]; simpa using hk)]
   have hform : x.ok = true → a < a' ∧ e = 0 := by
    intro hk
    have he : e = 0 := by
     by_cases he : e = 0
     ·exact he
     ·have := nextS_err (l := l) (a := a) he
      rw [hx] at this
      rw [this] at hk
      cases hk
    subst he
    exact ⟨(nextS_form hx H.out.2.2.2.2.2.1 hk).2.1, rfl⟩
   rw [hx] at hnext hnm hlx
   dsimp only at hnext hnm hlx
   have HX := hide hnext
   have HT := hide hT
   have HF := hide hform
   have HCK := hide (check_any x hnm)
   have HLX := hide hlx
   have HNEW := hide (fun W => spAt_new W x)
   clear hnext hnm hx hlx hT hform
   by_cases hok : x.ok = true
   ·have HOK := hide hok
    rw [if_pos hok] at HCK
    obtain ⟨t, i, p', s, en, nm⟩ := x
    dsimp only at *
    unfold spV at *
    clear hok
    go_wp2_with fail
    refine HX.out.mono ?_
    rintro e3 w3 ⟨rfl, hs3, hg3⟩
    have HS3 := hide hs3
    have HG3 := hide hg3
    clear hs3 hg3
    go_wp2_with fail
    refine (HCK.out _).mono ?_
    rintro e4 w4 ⟨rfl, hb4⟩
    obtain ⟨d0, d1, d2, d3, d4, d5⟩ := ((HNEW.out w3).below hb4).z
    dsimp only at d0 d1 d2 d3 d4 d5
    have hw34 : Below w3.heap.size w3 w4 := ((Below.refl _ _).alloc (Nat.le_refl _) _).trans (hb4.mono (by simp))
    have hrow : OwnS w1.heap.size w4 u5 r := by
     have h1 := H.out.2.2.1
     have h2 := h1.grown HG3.out (by
      cases hob : u5.ownBlock with
      | none => exact .inl rfl
      | some k =>
       refine .inr fun e => ?_
       injection e with e
       have := (h1.lt k hob).1
       have := HUG.out
       omega)
     exact h2.below hw34
    have hgw : wr.grownBy w4 (some g) := gtrans HG3.out ⟨hw34.os, hw34.tape, hw34.output, hw34.size, fun k hk _ => hw34.block k hk⟩
    have hsc4 : Sc w4 g (.slice q1 m1 c1) a' e' := by
     have h1 := HS3.out
     unfold Sc at h1 ⊢
     rw [hw34.block g HS3.out.lt]
     exact h1
    have hby4 := H.out.2.1.grown hgw HNE.out
    have hbw4 : Below w.heap.size w w4 := H.out.2.2.2.1.grown hgw H.out.2.2.2.1.size (fun k hk => by injection hk with hk; have := HWG.out; omega)
    have HROW := hide hrow
    have HSC4 := hide hsc4
    have HBY4 := hide hby4
    have HBW4 := hide hbw4
    have HGG4 := hide (gtrans H.out.2.2.2.2.1 hgw)
    have hsz4 : w1.heap.size ≤ w4.heap.size := HGG4.out.size
    have hrl : r.length ≤ 1100000 := by have := H.out.2.2.2.2.2.1; have := H.out.2.2.2.2.2.2.1; omega
    have HRL := hide hrl
    have HSZ4 := hide hsz4
    clear hb4 hw34 hrow hgw hsc4 hby4 hbw4 hrl hsz4
    go_wp2_with (at_builtin; go_must (refine wpList_push (v := u5) rfl _ _ rfl rfl ⟨t, i, p', s, en, nm⟩ rfl rfl HROW.out HSZ4.out HRL.out ?_); intro v5 w5 ho5 hb5 hg5)
    go_roundw
    case rel =>
     have hold : ∀ k, u5.ownBlock = some k → w1.heap.size ≤ k := fun k hk => (HROW.out.lt k hk).1
     refine ⟨j + 1, r ++ [⟨t, i, p', s, en, nm⟩], a', e', by omega, by go_num, hide ⟨?_, ?_, ho5, ?_, ?_, ?_, ?_, ?_⟩⟩
     ·have h1 := HSC4.out
      unfold Sc at h1 ⊢
      rw [hg5.block g HSC4.out.lt (fun e => by have := hold g e.symm; have := HUG.out; omega)]
      exact h1
     ·refine HBY4.out.grown hg5 ?_
      rcases HU.out with ⟨_, h0⟩ | ⟨gg, cap, eq, hBg, hPl, hm, hc2, hs2, hf2⟩
      ·exact .inl h0
      ·by_cases h0 : l = []
       ·exact .inl h0
       ·refine .inr fun k hk e => ?_
        injection eq with eq1
        subst eq1
        simp only [Value.ownBlock, Option.some.injEq] at hk
        subst hk
        have h1 := hold gg e
        have hPp : 0 < l.length := List.length_pos_iff.2 h0
        have := lt_of_cell (hc2 0 l[0] (List.getElem?_eq_getElem hPp))
        simp only at this
        omega
     ·exact HBW4.out.trans (hb5.mono (Nat.le_of_lt_succ (by have := HB1.out; omega)))
     ·exact ⟨hg5.os.trans HGG4.out.os, hg5.tape.trans HGG4.out.tape, hg5.output.trans HGG4.out.output, Nat.le_trans HGG4.out.size hg5.size, fun k hk hr => (hg5.block k (Nat.lt_of_lt_of_le hk HGG4.out.size) (fun e => by have := hold k e.symm; omega)).trans (HGG4.out.block k hk hr)⟩
     ·exact HLX.out
     ·have h1 := (HF.out HOK.out).1
      have h2 := H.out.2.2.2.2.2.2.1
      rw [List.length_append]
      simp only [List.length_cons, List.length_nil]
      omega
     ·rw [← HT.out.1 HOK.out]
      exact H.out.2.2.2.2.2.2.2
    case measure => simp [intOf]; omega
   ·have hRE := HT.out.2 hok
    simp only [Prod.mk.injEq] at hRE
    obtain ⟨rfl, rfl⟩ := hRE
    rw [if_neg hok] at HCK
    obtain ⟨t, i, p', s, en, nm⟩ := x
    dsimp only at *
    unfold spV at *
    clear hok
    go_wp2_with fail
    refine HX.out.mono ?_
    rintro e3 w3 ⟨rfl, hs3, hg3⟩
    have HG3 := hide hg3
    clear hs3 hg3
    go_wp2_with fail
    refine (HCK.out _).mono ?_
    rintro e4 w4 ⟨rfl, hb4⟩
    have hw34 : Below w3.heap.size w3 w4 := ((Below.refl _ _).alloc (Nat.le_refl _) _).trans (hb4.mono (by simp))
    have hgw : wr.grownBy w4 (some g) := gtrans HG3.out ⟨hw34.os, hw34.tape, hw34.output, hw34.size, fun k hk _ => hw34.block k hk⟩
    have HBW4 := hide (show Below w.heap.size w w4 from H.out.2.2.2.1.grown hgw H.out.2.2.2.1.size (fun k hk => by injection hk with hk; have := HWG.out; omega))
    clear hb4 hw34 hgw
    go_wp2
    go_ret2
    exact ⟨_, rfl, OwnS.nil _ _, HBW4.out⟩
  ·have hjN : j = N := by omega
   subst hjN
   have hend := H.out.2.2.2.2.2.2.2
   rw [Nat.sub_self, getT_end] at hend
   dsimp only at hend
   have HE := hide hend
   clear hend
   obtain ⟨E1, hE1⟩ : ∃ E1, endE a m1 e = E1 := ⟨_, rfl⟩
   have hel := H.out.2.2.2.2.2.1
   have HEND := hide (scanEnd_any H.out.1 (by have := HM1.out; omega) H.out.2.1.lenMax hE1)
   have hE1' := hE1
   unfold endE at hE1'
   go_wp2_with fail
   refine HEND.out.mono ?_
   rintro e3 w3 ⟨rfl, hs3, hg3⟩
   have HBW3 := hide (show Below w.heap.size w w3 from H.out.2.2.2.1.grown hg3 H.out.2.2.2.1.size (fun k hk => by injection hk with hk; have := HWG.out; omega))
   have HROW := hide (show OwnS w.heap.size w3 u5 r from ((H.out.2.2.1.grown hg3 (by
      cases hob : u5.ownBlock with
      | none => exact .inl rfl
      | some k =>
       refine .inr fun e => ?_
       injection e with e
       have := (H.out.2.2.1.lt k hob).1
       have := HUG.out
       omega)).mono HB1.out))
   clear hs3 hg3
   by_cases hE : E1 = 0
   ·subst hE
    have hc : e = 0 ∧ a = l.length := by
     have := HM1.out
     split at hE1'
     ·omega
     ·split at hE1'
      ·omega
      ·exact ⟨by omega, by omega⟩
    have hRE := HE.out
    rw [if_pos hc] at hRE
    simp only [Prod.mk.injEq] at hRE
    obtain ⟨rfl, rfl⟩ := hRE
    clear hE1' hE1 hel
    go_wp2
    go_ret2
    exact ⟨_, rfl, HROW.out, HBW3.out⟩
   ·have hc : ¬ (e = 0 ∧ a = l.length) := by
     have := HM1.out
     rintro ⟨h1, h2⟩
     rw [if_neg (by omega), if_neg (by omega)] at hE1'
     exact hE hE1'.symm
    have hRE := HE.out
    rw [if_neg hc] at hRE
    simp only [Prod.mk.injEq] at hRE
    obtain ⟨rfl, rfl⟩ := hRE
    have g1 : ((E1 : Int) != 0) = true := by simp; omega
    clear hE1' hE1 hel
    go_wp2
    go_ret2
    exact ⟨_, rfl, OwnS.nil _ _, HBW3.out⟩
end Go.Proofs.YtionbmlicmibgaaGreatDoor
namespace Go.Proofs.YtionbmlicmibgaaGreatDoor
set_option linter.unusedVariables false
set_option linter.unusedSimpArgs false
open Go.RowKit
theorem Own.lit0 (w : World) : Own w.heap.size (w.alloc (.cells #[] 5)) (.slice (some ⟨w.heap.size, 0, none⟩) 0 0) [] :=
 .inr ⟨w.heap.size, 0, rfl, Nat.le_refl _, Nat.le_refl _, by simp [maxLen], by simp, fun i h => by omega, fun i h => by omega⟩
set_option maxRecDepth 200000 in
set_option maxHeartbeats 4000000 in
theorem cloneB_any {w : World} {v : Value} {l : List UInt8} (h : By w v l) (hl : l.length ≤ 1100000) : Calls Tryz.prog 24 #[v] w fun e w' => ∃ p n c, e = .returned (.slice p n c) ∧ Own w.heap.size w' (.slice p n c) l ∧ Below w.heap.size w w' := by
 have qsp : ∀ (w : World) (a : Option Addr) (n c n' c' : Nat), (binOp .eql 32 (.slice a n c) (.slice none n' c')).run Tryz.prog w = .ok (.bool a.isNone) w := fun w a n c n' c' => Lib.run_eql_slice_nil w _ _ a n c n' c' Tryz.underlying32
 obtain ⟨p, n, c, rfl⟩ := h.sl
 cases p with
 | none =>
  have hn : l = [] := by
   obtain ⟨p', c', e, hl, hm, hn, hc⟩ := h
   injection e with e1 e2 e3
   exact List.eq_nil_of_length_eq_zero (by have := hn e1.symm; omega)
  subst hn
  have HB := hide (Below.refl w.heap.size w)
  clear h hl
  go_enter Tryz.func24, Tryz.ntmps24
  go_wp2
  go_ret
  exact ⟨_, _, _, rfl, Own.nil _ _, HB.out⟩
 | some a =>
  have bE := (Below.refl w.heap.size w).alloc (Nat.le_refl _) (.cells #[] 5)
  have HEE := hide (h.below bE)
  have HOE := hide (Own.lit0 w)
  have HBE := hide bE
  have HEL := hide hl
  clear bE h hl
  go_enter Tryz.func24, Tryz.ntmps24
  go_wp2_with (at_builtin; go_loud (refine wpList_append_by rfl (.tmp 5) (.tmp 6) rfl rfl (v := .slice (some ⟨w.heap.size, 0, none⟩) 0 0) (y := .slice (some a) n c) (l := []) (m := l) (B := w.heap.size) rfl rfl HOE.out HEE.out (by have := HEL.out; simp; omega) HBE.out.size ?_); intro v4 w4 ho4 hg4 hb4 hk4; rw [List.nil_append] at ho4; have HO4 := hide ho4; have HB4 := hide (HBE.out.trans hb4); obtain ⟨p4, n4, c4, rfl⟩ := ho4.by_.sl; clear ho4 hg4 hb4 hk4)
  go_ret
  exact ⟨_, _, _, rfl, HO4.out, HB4.out⟩
end Go.Proofs.YtionbmlicmibgaaGreatDoor
