/- The law MachineNobody. -/
import Derived.Test.YtionbmlicmibgaaGreatDoorMcNob
import Derived.Test.YtionbmlicmibgaaGreatDoorMcAw
namespace Go.Proofs.YtionbmlicmibgaaGreatDoor
set_option linter.unusedVariables false
set_option linter.unusedSimpArgs false
open Go.RowKit

set_option maxRecDepth 200000 in
set_option maxHeartbeats 8000000 in
theorem lawMNob_any {w : World} (hE : ErrT w) {ix tm : Int} {p : Option Addr} {n c : Nat} {l : List UInt8} (_ : By w (.slice p n c) l) (_ : fits ix) (_ : fits tm) : Calls Tryz.prog 13 #[.agg #[.int .i64 ix, .int .i64 tm, .slice p n c]] w fun e w' => e = .returned (.bool true) ∧ Below w.heap.size w w' := by
  have hneq : ∀ W, (binOp .neq 66 (.agg #[.int .i64 0, .int .i64 0, .int .i64 0, .int .i64 0, .int .i64 0, .int .i64 0, .int .i64 0, .int .i64 0]) (.agg #[.int .i64 0, .int .i64 0, .int .i64 0, .int .i64 0, .int .i64 0, .int .i64 0, .int .i64 0, .int .i64 0])).run Tryz.prog W = .ok (.bool false) W := fun W => by
    have := rp_neqB rp0 rp0 W
    rw [decide_eq_true rfl] at this
    exact this
  have b1 := (Below.refl w.heap.size w).alloc (Nat.le_refl _) (.cells #[.int .i64 ix, .int .i64 tm, .slice p n c] 55)
  have b2 := b1.alloc (o := .cells #[.pointer none] 99) b1.size
  have b3 := b2.alloc (o := .cells #[.pointer none, .pointer (some ⟨w.heap.size + 1, 0, none⟩)] 47) b2.size
  have s1 : (w.alloc (.cells #[.int .i64 ix, .int .i64 tm, .slice p n c] 55)).heap.size = w.heap.size + 1 := by simp
  have s2 : ((w.alloc (.cells #[.int .i64 ix, .int .i64 tm, .slice p n c] 55)).alloc (.cells #[.pointer none] 99)).heap.size = w.heap.size + 1 + 1 := by simp
  have r1 := heap_alloc_new w (.cells #[.int .i64 ix, .int .i64 tm, .slice p n c] 55)
  have r2 := heap_alloc_new (w.alloc (.cells #[.int .i64 ix, .int .i64 tm, .slice p n c] 55)) (.cells #[.pointer none] 99)
  have r3 := heap_alloc_new ((w.alloc (.cells #[.int .i64 ix, .int .i64 tm, .slice p n c] 55)).alloc (.cells #[.pointer none] 99)) (.cells #[.pointer none, .pointer (some ⟨w.heap.size + 1, 0, none⟩)] 47)
  rw [s1] at r2
  rw [s2] at r3
  have k2 := (Below.refl _ (w.alloc (.cells #[.int .i64 ix, .int .i64 tm, .slice p n c] 55))).alloc (Nat.le_refl _) (.cells #[.pointer none] 99)
  have k3 := (Below.refl _ ((w.alloc (.cells #[.int .i64 ix, .int .i64 tm, .slice p n c] 55)).alloc (.cells #[.pointer none] 99))).alloc (Nat.le_refl _) (.cells #[.pointer none, .pointer (some ⟨w.heap.size + 1, 0, none⟩)] 47)
  have q1 := (k3.block w.heap.size (by omega)).trans ((k2.block w.heap.size (by omega)).trans r1)
  have q2 := (k3.block (w.heap.size + 1) (by omega)).trans r2
  have HE := hide hE
  go_enter Tryz.func13, Tryz.ntmps13
  go_upto_region 2 with fail
  obtain ⟨X, hX⟩ : ∃ X, ((w.alloc (.cells #[.int .i64 ix, .int .i64 tm, .slice p n c] 55)).alloc (.cells #[.pointer none] 99)).alloc (.cells #[.pointer none, .pointer (some ⟨w.heap.size + 1, 0, none⟩)] 47) = X := ⟨_, rfl⟩
  rw [hX] at b3 r3 q1 q2 ⊢
  obtain ⟨b0, h0⟩ : ∃ b, w.heap.size = b := ⟨_, rfl⟩
  obtain ⟨bM, hM⟩ : ∃ b, b0 + 1 = b := ⟨_, rfl⟩
  obtain ⟨bL, hL⟩ : ∃ b, bM + 1 = b := ⟨_, rfl⟩
  have HWX : Hid (Below w.heap.size w X) := hide b3
  rw [h0, hM] at q2 r3
  rw [h0] at q1
  rw [hL] at r3
  rw [h0, hM, hL]
  have HQ := hide (And.intro q1 (And.intro q2 r3))
  clear hX b1 b2 b3 s1 s2 r1 r2 r3 k2 k3 q1 q2 h0 hM hL hE
  go_loopw [11] (fun i wr => ∃ j : Nat, j ≤ 2 ∧ i = .int .i64 j ∧ Hid (Below X.heap.size X wr)) (fun i _ => 2 - (intOf i).toNat)
  case atStart => exact ⟨0, by omega, rfl, hide (Below.refl _ _)⟩
  case round =>
    obtain ⟨j, hj, rfl, HR⟩ := hrel
    have HBR : Hid (Below w.heap.size w wr) := hide (HWX.out.trans (HR.out.mono HWX.out.size))
    have hq1 := (HR.out.block b0 (Array.getElem?_eq_some_iff.1 HQ.out.1).1).trans HQ.out.1
    have hq2 := (HR.out.block bM (Array.getElem?_eq_some_iff.1 HQ.out.2.1).1).trans HQ.out.2.1
    have hq3 := (HR.out.block bL (Array.getElem?_eq_some_iff.1 HQ.out.2.2).1).trans HQ.out.2.2
    by_cases hlt : j < 2
    · obtain ⟨a, ha, hno⟩ : ∃ a, wr.cell? ⟨bL, j, none⟩ = some (.pointer a) ∧ NoM wr (.pointer a) := by
        match j, hlt with
        | 0, _ => exact ⟨_, cell_of_row wr bL 0 _ _ (0, 0) hq3, .inl rfl⟩
        | 1, _ => exact ⟨_, cell_of_row wr bL 1 _ _ (0, 0) hq3, .inr ⟨bM, rfl, cell_of_row wr bM 0 _ _ (0, 0) hq2⟩⟩
      have x0 : wr.cell? ⟨b0, 0, none⟩ = some (.int .i64 ix) := cell_of_row wr b0 0 _ _ (0, 0) hq1
      have x1 : wr.cell? ⟨b0, 1, none⟩ = some (.int .i64 tm) := cell_of_row wr b0 1 _ _ (0, 0) hq1
      have x2 : wr.cell? ⟨b0, 2, none⟩ = some (.slice p n c) := cell_of_row wr b0 2 _ _ (0, 0) hq1
      have HNO0 := hide hno
      have HX0 := hide x0
      clear hno hq1 hq2 hq3
      go_wp2_with fail
      refine (mapply_no HNO0.out ix tm p n c).mono ?_
      rintro e w4 ⟨rfl, hb4⟩
      have HB4 := hide hb4
      have HN4 := hide (HNO0.out.below hb4)
      have HX4 := hide ((hb4.cell (lt_of_cell HX0.out)).trans HX0.out)
      clear hb4 x0 x1 x2 ha
      go_upto_region 5 with fail
      obtain ⟨W5, hW5⟩ : ∃ X, w4.alloc (.cells #[.int .i64 0, .int .i64 0, .int .i64 0, .int .i64 0, .int .i64 0, .int .i64 0, .int .i64 0, .int .i64 0] 66) = X := ⟨_, rfl⟩
      have hb5 : Below w4.heap.size w4 W5 := by rw [← hW5]; exact (Below.refl _ _).alloc (Nat.le_refl _) _
      have hr5 : W5.heap[w4.heap.size]? = some (.cells #[.int .i64 0, .int .i64 0, .int .i64 0, .int .i64 0, .int .i64 0, .int .i64 0, .int .i64 0, .int .i64 0] 66 (0, 0)) := by rw [← hW5]; exact heap_alloc_new w4 _
      rw [hW5]
      obtain ⟨bR, hbR⟩ : ∃ b, w4.heap.size = b := ⟨_, rfl⟩
      rw [hbR] at hr5 ⊢
      have HNO : Hid (∀ U, Below W5.heap.size W5 U → NoM U (.pointer a)) := hide fun U hU => (HN4.out.below hb5).below hU
      have hx5 := (hb5.cell (lt_of_cell HX4.out)).trans HX4.out
      have HKP : Hid (∀ U, Below W5.heap.size W5 U → U.cell? ⟨bR, 0, none⟩ = some (.int .i64 0) ∧ U.cell? ⟨bR, 1, none⟩ = some (.int .i64 0) ∧ U.cell? ⟨bR, 2, none⟩ = some (.int .i64 0) ∧ U.cell? ⟨bR, 3, none⟩ = some (.int .i64 0) ∧ U.cell? ⟨bR, 4, none⟩ = some (.int .i64 0) ∧ U.cell? ⟨bR, 5, none⟩ = some (.int .i64 0) ∧ U.cell? ⟨bR, 6, none⟩ = some (.int .i64 0) ∧ U.cell? ⟨bR, 7, none⟩ = some (.int .i64 0) ∧ U.cell? ⟨b0, 0, none⟩ = some (.int .i64 ix)) := hide fun U hU => (by
        have h1 := (hU.block bR (Array.getElem?_eq_some_iff.1 hr5).1).trans hr5
        exact ⟨cell_of_row U bR 0 _ _ (0, 0) h1, cell_of_row U bR 1 _ _ (0, 0) h1, cell_of_row U bR 2 _ _ (0, 0) h1, cell_of_row U bR 3 _ _ (0, 0) h1, cell_of_row U bR 4 _ _ (0, 0) h1, cell_of_row U bR 5 _ _ (0, 0) h1, cell_of_row U bR 6 _ _ (0, 0) h1, cell_of_row U bR 7 _ _ (0, 0) h1, (hU.cell (lt_of_cell hx5)).trans hx5⟩)
      have HB5 : Hid (Below X.heap.size X W5) := hide (HR.out.trans ((HB4.out.trans (hb5.mono HB4.out.size)).mono HR.out.size))
      clear hW5 hb5 hr5 hbR hx5
      refine wp_region_held_drew (S := (fun U => U.cell? ⟨bR, 0, none⟩ = some (.int .i64 0) ∧ U.cell? ⟨bR, 1, none⟩ = some (.int .i64 0) ∧ U.cell? ⟨bR, 2, none⟩ = some (.int .i64 0) ∧ U.cell? ⟨bR, 3, none⟩ = some (.int .i64 0) ∧ U.cell? ⟨bR, 4, none⟩ = some (.int .i64 0) ∧ U.cell? ⟨bR, 5, none⟩ = some (.int .i64 0) ∧ U.cell? ⟨bR, 6, none⟩ = some (.int .i64 0) ∧ U.cell? ⟨bR, 7, none⟩ = some (.int .i64 0) ∧ U.cell? ⟨b0, 0, none⟩ = some (.int .i64 ix))) (by kernel_rfl) (HKP.out _ (bdrew W5 1)) (fun hHeld => ?_)
      refine wpAnyH_take (i := 0) (oi := { dst := some 21, op := Op.load 66 (Operand.tmp 5), type := 66, pos := "law.go:332", after := #[], guard := none }) (v := ?_) rfl (by kernel_rfl) (by kernel_rfl) (by kernel_rfl) (fun _ _ _ h => h) (Or.inl ⟨by rfl, ?_⟩) (by assumption) ?_
      rotate_left
      · intro w hSw
        (try dsimp only at hSw)
        go_simp
        try with_reducible rfl
      try simp only [Act.put, List.setIfInBounds_toArray, List.set_cons_zero, List.set_cons_succ]
      refine wpAnyH_take (i := 1) (oi := { dst := some 22, op := Op.build 66 #[], type := 66, pos := "law.go:332", after := #[], guard := none }) (v := ?_) rfl (by kernel_rfl) (by kernel_rfl) (by kernel_rfl) (fun _ _ _ h => h) (Or.inl ⟨by rfl, ?_⟩) (by assumption) ?_
      rotate_left
      · intro w hSw
        (try dsimp only at hSw)
        go_simp
        try with_reducible rfl
      try simp only [Act.put, List.setIfInBounds_toArray, List.set_cons_zero, List.set_cons_succ]
      refine wpAnyH_take (i := 2) (oi := { dst := some 23, op := Op.binOp BinOp.neq 66 (Operand.tmp 21) (Operand.tmp 22) 66, type := 4, pos := "law.go:332", after := _, guard := none }) (v := (.bool false)) rfl (by kernel_rfl) (by kernel_rfl) (by kernel_rfl) (fun _ _ _ h => h) (Or.inl ⟨by rfl, ?_⟩) (by assumption) ?_
      · intro w hSw
        (try dsimp only at hSw)
        go_simp
        try (first | with_reducible rfl | exact hneq _)
      try simp only [Act.put, List.setIfInBounds_toArray, List.set_cons_zero, List.set_cons_succ]
      refine wpAnyH_take (i := 3) (oi := { dst := some 24, op := Op.move (Operand.tmp 23), type := 4, pos := "law.go:332", after := _, guard := none }) (v := (.bool false)) rfl (by kernel_rfl) (by kernel_rfl) (by kernel_rfl) (fun _ _ _ h => h) (Or.inl ⟨by rfl, ?_⟩) (by assumption) ?_
      · intro w hSw
        (try dsimp only at hSw)
        go_simp
        try with_reducible rfl
      try simp only [Act.put, List.setIfInBounds_toArray, List.set_cons_zero, List.set_cons_succ]
      refine wpAnyH_take (i := 4) (oi := { dst := some 25, op := Op.move (Operand.tmp 6), type := 33, pos := "law.go:332", after := _, guard := some (3, false) }) (v := ?_) rfl (by kernel_rfl) (by kernel_rfl) (by kernel_rfl) (fun _ _ _ h => h) (Or.inl ⟨by rfl, ?_⟩) (by assumption) ?_
      rotate_left
      · intro w hSw
        (try dsimp only at hSw)
        go_simp
        try with_reducible rfl
      try simp only [Act.put, List.setIfInBounds_toArray, List.set_cons_zero, List.set_cons_succ]
      refine wpAnyH_take (i := 5) (oi := { dst := some 26, op := Op.binOp BinOp.neq 33 (Operand.tmp 25) (Operand.const (Value.int IntKind.i64 6)) 33, type := 4, pos := "law.go:332", after := _, guard := some (3, false) }) (v := (.bool false)) rfl (by kernel_rfl) (by kernel_rfl) (by kernel_rfl) (fun _ _ _ h => h) (Or.inl ⟨by rfl, ?_⟩) (by assumption) ?_
      · intro w hSw
        (try dsimp only at hSw)
        go_simp
        try with_reducible rfl
      try simp only [Act.put, List.setIfInBounds_toArray, List.set_cons_zero, List.set_cons_succ]
      refine wpAnyH_take (i := 6) (oi := { dst := some 27, op := Op.pick (Operand.tmp 24) (Operand.const (Value.bool true)) (Operand.tmp 26), type := 4, pos := "law.go:332", after := _, guard := none }) (v := (.bool false)) rfl (by kernel_rfl) (by kernel_rfl) (by kernel_rfl) (fun _ _ _ h => h) (Or.inl ⟨by rfl, ?_⟩) (by assumption) ?_
      · intro w hSw
        (try dsimp only at hSw)
        go_simp
        try with_reducible rfl
      try simp only [Act.put, List.setIfInBounds_toArray, List.set_cons_zero, List.set_cons_succ]
      refine wpAnyH_take (i := 7) (oi := { dst := some 28, op := Op.move (Operand.tmp 27), type := 4, pos := "law.go:332", after := _, guard := none }) (v := (.bool false)) rfl (by kernel_rfl) (by kernel_rfl) (by kernel_rfl) (fun _ _ _ h => h) (Or.inl ⟨by rfl, ?_⟩) (by assumption) ?_
      · intro w hSw
        (try dsimp only at hSw)
        go_simp
        try with_reducible rfl
      try simp only [Act.put, List.setIfInBounds_toArray, List.set_cons_zero, List.set_cons_succ]
      refine wpAnyH_take (i := 8) (oi := { dst := some 29, op := Op.move (Operand.tmp 4), type := 47, pos := "law.go:332", after := _, guard := some (7, false) }) (v := ?_) rfl (by kernel_rfl) (by kernel_rfl) (by kernel_rfl) (fun _ _ _ h => h) (Or.inl ⟨by rfl, ?_⟩) (by assumption) ?_
      rotate_left
      · intro w hSw
        (try dsimp only at hSw)
        go_simp
        try with_reducible rfl
      try simp only [Act.put, List.setIfInBounds_toArray, List.set_cons_zero, List.set_cons_succ]
      refine wpAnyH_take (i := 10) (oi := { dst := some 31, op := Op.move (Operand.tmp 4), type := 47, pos := "law.go:332", after := _, guard := some (7, false) }) (v := ?_) rfl (by kernel_rfl) (by kernel_rfl) (by kernel_rfl) (fun _ _ _ h => h) (Or.inl ⟨by rfl, ?_⟩) (by assumption) ?_
      rotate_left
      · intro w hSw
        (try dsimp only at hSw)
        go_simp
        try with_reducible rfl
      try simp only [Act.put, List.setIfInBounds_toArray, List.set_cons_zero, List.set_cons_succ]
      refine wpAnyH_take (i := 13) (oi := { dst := some 34, op := Op.move (Operand.tmp 4), type := 47, pos := "law.go:332", after := _, guard := some (7, false) }) (v := ?_) rfl (by kernel_rfl) (by kernel_rfl) (by kernel_rfl) (fun _ _ _ h => h) (Or.inl ⟨by rfl, ?_⟩) (by assumption) ?_
      rotate_left
      · intro w hSw
        (try dsimp only at hSw)
        go_simp
        try with_reducible rfl
      try simp only [Act.put, List.setIfInBounds_toArray, List.set_cons_zero, List.set_cons_succ]
      refine wpAnyH_take (i := 17) (oi := { dst := some 38, op := Op.move (Operand.tmp 4), type := 47, pos := "law.go:332", after := _, guard := some (7, false) }) (v := ?_) rfl (by kernel_rfl) (by kernel_rfl) (by kernel_rfl) (fun _ _ _ h => h) (Or.inl ⟨by rfl, ?_⟩) (by assumption) ?_
      rotate_left
      · intro w hSw
        (try dsimp only at hSw)
        go_simp
        try with_reducible rfl
      try simp only [Act.put, List.setIfInBounds_toArray, List.set_cons_zero, List.set_cons_succ]
      refine wpAnyH_take (i := 21) (oi := { dst := some 42, op := Op.move (Operand.tmp 4), type := 47, pos := "law.go:332", after := _, guard := some (7, false) }) (v := ?_) rfl (by kernel_rfl) (by kernel_rfl) (by kernel_rfl) (fun _ _ _ h => h) (Or.inl ⟨by rfl, ?_⟩) (by assumption) ?_
      rotate_left
      · intro w hSw
        (try dsimp only at hSw)
        go_simp
        try with_reducible rfl
      try simp only [Act.put, List.setIfInBounds_toArray, List.set_cons_zero, List.set_cons_succ]
      refine wpAnyH_take (i := 22) (oi := { dst := some 43, op := Op.fieldAddr 55 (Operand.tmp 1) 0, type := 0, pos := "law.go:332", after := _, guard := some (7, false) }) (v := ?_) rfl (by kernel_rfl) (by kernel_rfl) (by kernel_rfl) (fun _ _ _ h => h) (Or.inl ⟨by rfl, ?_⟩) (by assumption) ?_
      rotate_left
      · intro w hSw
        (try dsimp only at hSw)
        go_simp
        try with_reducible rfl
      try simp only [Act.put, List.setIfInBounds_toArray, List.set_cons_zero, List.set_cons_succ]
      refine wpAnyH_take (i := 23) (oi := { dst := some 44, op := Op.load 3 (Operand.tmp 43), type := 3, pos := "law.go:332", after := _, guard := some (7, false) }) (v := ?_) rfl (by kernel_rfl) (by kernel_rfl) (by kernel_rfl) (fun _ _ _ h => h) (Or.inl ⟨by rfl, ?_⟩) (by assumption) ?_
      rotate_left
      · intro w hSw
        (try dsimp only at hSw)
        go_simp
        try with_reducible rfl
      try simp only [Act.put, List.setIfInBounds_toArray, List.set_cons_zero, List.set_cons_succ]
      refine wpAnyH_take (i := 27) (oi := { dst := some 48, op := Op.move (Operand.tmp 4), type := 47, pos := "law.go:332", after := _, guard := some (7, false) }) (v := ?_) rfl (by kernel_rfl) (by kernel_rfl) (by kernel_rfl) (fun _ _ _ h => h) (Or.inl ⟨by rfl, ?_⟩) (by assumption) ?_
      rotate_left
      · intro w hSw
        (try dsimp only at hSw)
        go_simp
        try with_reducible rfl
      try simp only [Act.put, List.setIfInBounds_toArray, List.set_cons_zero, List.set_cons_succ]
      refine wpAnyH_take (i := 31) (oi := { dst := some 52, op := Op.move (Operand.tmp 4), type := 47, pos := "law.go:332", after := _, guard := some (7, false) }) (v := ?_) rfl (by kernel_rfl) (by kernel_rfl) (by kernel_rfl) (fun _ _ _ h => h) (Or.inl ⟨by rfl, ?_⟩) (by assumption) ?_
      rotate_left
      · intro w hSw
        (try dsimp only at hSw)
        go_simp
        try with_reducible rfl
      try simp only [Act.put, List.setIfInBounds_toArray, List.set_cons_zero, List.set_cons_succ]
      refine wpAnyH_ready (rs := [9]) (by kernel_rfl) (by simp) ?_
      refine AllReadyH.cons (o := { dst := some 30, op := Op.call { callee := Callee.value (Operand.func 40), args := #[Operand.tmp 29], argTypes := #[47] }, type := 3, pos := "law.go:332", after := _, guard := some (7, false) }) rfl (fun K hK => ?_) AllReadyH.nil
      go_simp
      go_at_call 40
      refine (mindex_no (HNO.out _ (bdrew W5 1))).mono ?_
      rintro e1 W1 ⟨rfl, rfl⟩
      first
        | refine hK.out _ _ ?_ (fun hHeld => ?_)
        | (go_wp2_with fail; refine hK.out _ _ ?_ (fun hHeld => ?_))
      · exact (HKP.out _ (bdrew W5 1))
      clear hK K
      try simp only [Act.put, List.setIfInBounds_toArray, List.set_cons_zero, List.set_cons_succ]
      refine wpAnyH_ready (rs := [11]) (by kernel_rfl) (by simp) ?_
      refine AllReadyH.cons (o := { dst := some 32, op := Op.call { callee := Callee.value (Operand.func 41), args := #[Operand.tmp 31], argTypes := #[47] }, type := 3, pos := "law.go:332", after := _, guard := some (7, false) }) rfl (fun K hK => ?_) AllReadyH.nil
      go_simp
      go_at_call 41
      refine (mterm_no (HNO.out _ (bdrew W5 1))).mono ?_
      rintro e1 W1 ⟨rfl, rfl⟩
      first
        | refine hK.out _ _ ?_ (fun hHeld => ?_)
        | (go_wp2_with fail; refine hK.out _ _ ?_ (fun hHeld => ?_))
      · exact (HKP.out _ (bdrew W5 1))
      clear hK K
      try simp only [Act.put, List.setIfInBounds_toArray, List.set_cons_zero, List.set_cons_succ]
      refine wpAnyH_take (i := 12) (oi := { dst := some 33, op := Op.binOp BinOp.add 3 (Operand.tmp 30) (Operand.tmp 32) 3, type := 3, pos := "law.go:332", after := _, guard := some (7, false) }) (v := ?_) rfl (by kernel_rfl) (by kernel_rfl) (by kernel_rfl) (fun _ _ _ h => h) (Or.inl ⟨by rfl, ?_⟩) (by assumption) ?_
      rotate_left
      · intro w hSw
        (try dsimp only at hSw)
        go_simp
        try with_reducible rfl
      try simp only [Act.put, List.setIfInBounds_toArray, List.set_cons_zero, List.set_cons_succ]
      refine wpAnyH_ready (rs := [14]) (by kernel_rfl) (by simp) ?_
      refine AllReadyH.cons (o := { dst := some 35, op := Op.call { callee := Callee.value (Operand.func 50), args := #[Operand.tmp 34], argTypes := #[47] }, type := 23, pos := "law.go:332", after := _, guard := some (7, false) }) rfl (fun K hK => ?_) AllReadyH.nil
      go_simp
      go_at_call 50
      refine (mvoters_no (HNO.out _ (bdrew W5 1))).mono ?_
      rintro e1 W1 ⟨rfl, rfl⟩
      first
        | refine hK.out _ _ ?_ (fun hHeld => ?_)
        | (go_wp2_with fail; refine hK.out _ _ ?_ (fun hHeld => ?_))
      · exact (HKP.out _ (bdrew W5 1))
      clear hK K
      try simp only [Act.put, List.setIfInBounds_toArray, List.set_cons_zero, List.set_cons_succ]
      refine wpAnyH_take (i := 15) (oi := { dst := some 36, op := Op.call { callee := Callee.builtin Builtin.len, args := #[Operand.tmp 35], argTypes := #[23] }, type := 3, pos := "law.go:332", after := _, guard := some (7, false) }) (v := ?_) rfl (by kernel_rfl) (by kernel_rfl) (by kernel_rfl) (fun _ _ _ h => h) (Or.inl ⟨by rfl, ?_⟩) (by assumption) ?_
      rotate_left
      · intro w hSw
        (try dsimp only at hSw)
        go_simp
        try with_reducible rfl
      try simp only [Act.put, List.setIfInBounds_toArray, List.set_cons_zero, List.set_cons_succ]
      refine wpAnyH_take (i := 16) (oi := { dst := some 37, op := Op.binOp BinOp.add 3 (Operand.tmp 33) (Operand.tmp 36) 3, type := 3, pos := "law.go:332", after := _, guard := some (7, false) }) (v := ?_) rfl (by kernel_rfl) (by kernel_rfl) (by kernel_rfl) (fun _ _ _ h => h) (Or.inl ⟨by rfl, ?_⟩) (by assumption) ?_
      rotate_left
      · intro w hSw
        (try dsimp only at hSw)
        go_simp
        try with_reducible rfl
      try simp only [Act.put, List.setIfInBounds_toArray, List.set_cons_zero, List.set_cons_succ]
      refine wpAnyH_ready (rs := [18]) (by kernel_rfl) (by simp) ?_
      refine AllReadyH.cons (o := { dst := some 39, op := Op.call { callee := Callee.value (Operand.func 39), args := #[Operand.tmp 38], argTypes := #[47] }, type := 32, pos := "law.go:332", after := _, guard := some (7, false) }) rfl (fun K hK => ?_) AllReadyH.nil
      go_simp
      go_at_call 39
      refine (mimage_no (HNO.out _ (bdrew W5 1))).mono ?_
      rintro e1 W1 ⟨rfl, rfl⟩
      first
        | refine hK.out _ _ ?_ (fun hHeld => ?_)
        | (go_wp2_with fail; refine hK.out _ _ ?_ (fun hHeld => ?_))
      · exact (HKP.out _ (bdrew W5 1))
      clear hK K
      try simp only [Act.put, List.setIfInBounds_toArray, List.set_cons_zero, List.set_cons_succ]
      refine wpAnyH_take (i := 19) (oi := { dst := some 40, op := Op.call { callee := Callee.builtin Builtin.len, args := #[Operand.tmp 39], argTypes := #[32] }, type := 3, pos := "law.go:332", after := _, guard := some (7, false) }) (v := ?_) rfl (by kernel_rfl) (by kernel_rfl) (by kernel_rfl) (fun _ _ _ h => h) (Or.inl ⟨by rfl, ?_⟩) (by assumption) ?_
      rotate_left
      · intro w hSw
        (try dsimp only at hSw)
        go_simp
        try with_reducible rfl
      try simp only [Act.put, List.setIfInBounds_toArray, List.set_cons_zero, List.set_cons_succ]
      refine wpAnyH_take (i := 20) (oi := { dst := some 41, op := Op.binOp BinOp.add 3 (Operand.tmp 37) (Operand.tmp 40) 3, type := 3, pos := "law.go:332", after := _, guard := some (7, false) }) (v := ?_) rfl (by kernel_rfl) (by kernel_rfl) (by kernel_rfl) (fun _ _ _ h => h) (Or.inl ⟨by rfl, ?_⟩) (by assumption) ?_
      rotate_left
      · intro w hSw
        (try dsimp only at hSw)
        go_simp
        try with_reducible rfl
      try simp only [Act.put, List.setIfInBounds_toArray, List.set_cons_zero, List.set_cons_succ]
      refine wpAnyH_ready (rs := [24]) (by kernel_rfl) (by simp) ?_
      refine AllReadyH.cons (o := { dst := some 45, op := Op.call { callee := Callee.value (Operand.func 47), args := #[Operand.tmp 42, Operand.tmp 44], argTypes := #[47, 3] }, type := 88, pos := "law.go:332", after := _, guard := some (7, false) }) rfl (fun K hK => ?_) AllReadyH.nil
      go_simp
      go_at_call 47
      refine (mlookup_no (HNO.out _ (bdrew W5 1)) ix).mono ?_
      rintro e1 W1 ⟨rfl, rfl⟩
      first
        | refine hK.out _ _ ?_ (fun hHeld => ?_)
        | (go_wp2_with fail; refine hK.out _ _ ?_ (fun hHeld => ?_))
      · exact (HKP.out _ (bdrew W5 1))
      clear hK K
      try simp only [Act.put, List.setIfInBounds_toArray, List.set_cons_zero, List.set_cons_succ]
      refine wpAnyH_take (i := 25) (oi := { dst := some 46, op := Op.call { callee := Callee.builtin Builtin.len, args := #[Operand.tmp 45], argTypes := #[88] }, type := 3, pos := "law.go:332", after := _, guard := some (7, false) }) (v := ?_) rfl (by kernel_rfl) (by kernel_rfl) (by kernel_rfl) (fun _ _ _ h => h) (Or.inl ⟨by rfl, ?_⟩) (by assumption) ?_
      rotate_left
      · intro w hSw
        (try dsimp only at hSw)
        go_simp
        try with_reducible rfl
      try simp only [Act.put, List.setIfInBounds_toArray, List.set_cons_zero, List.set_cons_succ]
      refine wpAnyH_take (i := 26) (oi := { dst := some 47, op := Op.binOp BinOp.add 3 (Operand.tmp 41) (Operand.tmp 46) 3, type := 3, pos := "law.go:332", after := _, guard := some (7, false) }) (v := ?_) rfl (by kernel_rfl) (by kernel_rfl) (by kernel_rfl) (fun _ _ _ h => h) (Or.inl ⟨by rfl, ?_⟩) (by assumption) ?_
      rotate_left
      · intro w hSw
        (try dsimp only at hSw)
        go_simp
        try with_reducible rfl
      try simp only [Act.put, List.setIfInBounds_toArray, List.set_cons_zero, List.set_cons_succ]
      refine wpAnyH_ready (rs := [28]) (by kernel_rfl) (by simp) ?_
      refine AllReadyH.cons (o := { dst := some 49, op := Op.call { callee := Callee.value (Operand.func 42), args := #[Operand.tmp 48], argTypes := #[47] }, type := 23, pos := "law.go:332", after := _, guard := some (7, false) }) rfl (fun K hK => ?_) AllReadyH.nil
      go_simp
      go_at_call 42
      refine (mtraces_no (HNO.out _ (bdrew W5 1))).mono ?_
      rintro e1 W1 ⟨rfl, rfl⟩
      first
        | refine hK.out _ _ ?_ (fun hHeld => ?_)
        | (go_wp2_with fail; refine hK.out _ _ ?_ (fun hHeld => ?_))
      · exact (HKP.out _ (bdrew W5 1))
      clear hK K
      try simp only [Act.put, List.setIfInBounds_toArray, List.set_cons_zero, List.set_cons_succ]
      refine wpAnyH_take (i := 29) (oi := { dst := some 50, op := Op.call { callee := Callee.builtin Builtin.len, args := #[Operand.tmp 49], argTypes := #[23] }, type := 3, pos := "law.go:332", after := _, guard := some (7, false) }) (v := ?_) rfl (by kernel_rfl) (by kernel_rfl) (by kernel_rfl) (fun _ _ _ h => h) (Or.inl ⟨by rfl, ?_⟩) (by assumption) ?_
      rotate_left
      · intro w hSw
        (try dsimp only at hSw)
        go_simp
        try with_reducible rfl
      try simp only [Act.put, List.setIfInBounds_toArray, List.set_cons_zero, List.set_cons_succ]
      refine wpAnyH_take (i := 30) (oi := { dst := some 51, op := Op.binOp BinOp.add 3 (Operand.tmp 47) (Operand.tmp 50) 3, type := 3, pos := "law.go:332", after := _, guard := some (7, false) }) (v := ?_) rfl (by kernel_rfl) (by kernel_rfl) (by kernel_rfl) (fun _ _ _ h => h) (Or.inl ⟨by rfl, ?_⟩) (by assumption) ?_
      rotate_left
      · intro w hSw
        (try dsimp only at hSw)
        go_simp
        try with_reducible rfl
      try simp only [Act.put, List.setIfInBounds_toArray, List.set_cons_zero, List.set_cons_succ]
      refine wpAnyH_ready (rs := [32]) (by kernel_rfl) (by simp) ?_
      refine AllReadyH.cons (o := { dst := some 53, op := Op.call { callee := Callee.value (Operand.func 44), args := #[Operand.tmp 52], argTypes := #[47] }, type := 81, pos := "law.go:332", after := _, guard := some (7, false) }) rfl (fun K hK => ?_) AllReadyH.nil
      go_simp
      go_at_call 44
      refine (mseats_no (HNO.out _ (bdrew W5 1))).mono ?_
      rintro e1 W1 ⟨rfl, rfl⟩
      first
        | refine hK.out _ _ ?_ (fun hHeld => ?_)
        | (go_wp2_with fail; refine hK.out _ _ ?_ (fun hHeld => ?_))
      · exact (HKP.out _ (bdrew W5 1))
      clear hK K
      try simp only [Act.put, List.setIfInBounds_toArray, List.set_cons_zero, List.set_cons_succ]
      refine wpAnyH_take (i := 33) (oi := { dst := some 54, op := Op.call { callee := Callee.builtin Builtin.len, args := #[Operand.tmp 53], argTypes := #[81] }, type := 3, pos := "law.go:332", after := _, guard := some (7, false) }) (v := ?_) rfl (by kernel_rfl) (by kernel_rfl) (by kernel_rfl) (fun _ _ _ h => h) (Or.inl ⟨by rfl, ?_⟩) (by assumption) ?_
      rotate_left
      · intro w hSw
        (try dsimp only at hSw)
        go_simp
        try with_reducible rfl
      try simp only [Act.put, List.setIfInBounds_toArray, List.set_cons_zero, List.set_cons_succ]
      refine wpAnyH_take (i := 34) (oi := { dst := some 55, op := Op.binOp BinOp.add 3 (Operand.tmp 51) (Operand.tmp 54) 3, type := 3, pos := "law.go:332", after := _, guard := some (7, false) }) (v := ?_) rfl (by kernel_rfl) (by kernel_rfl) (by kernel_rfl) (fun _ _ _ h => h) (Or.inl ⟨by rfl, ?_⟩) (by assumption) ?_
      rotate_left
      · intro w hSw
        (try dsimp only at hSw)
        go_simp
        try with_reducible rfl
      try simp only [Act.put, List.setIfInBounds_toArray, List.set_cons_zero, List.set_cons_succ]
      refine wpAnyH_take (i := 35) (oi := { dst := some 56, op := Op.binOp BinOp.neq 3 (Operand.tmp 55) (Operand.const (Value.int IntKind.i64 0)) 3, type := 4, pos := "law.go:332", after := _, guard := some (7, false) }) (v := (.bool false)) rfl (by kernel_rfl) (by kernel_rfl) (by kernel_rfl) (fun _ _ _ h => h) (Or.inl ⟨by rfl, ?_⟩) (by assumption) ?_
      · intro w hSw
        (try dsimp only at hSw)
        go_simp
        try (first | with_reducible rfl | decide | rfl)
      try simp only [Act.put, List.setIfInBounds_toArray, List.set_cons_zero, List.set_cons_succ]
      refine wpAnyH_take (i := 36) (oi := { dst := some 57, op := Op.pick (Operand.tmp 28) (Operand.const (Value.bool true)) (Operand.tmp 56), type := 4, pos := "law.go:332", after := _, guard := none }) (v := (.bool false)) rfl (by kernel_rfl) (by kernel_rfl) (by kernel_rfl) (fun _ _ _ h => h) (Or.inl ⟨by rfl, ?_⟩) (by assumption) ?_
      · intro w hSw
        (try dsimp only at hSw)
        go_simp
        try with_reducible rfl
      try simp only [Act.put, List.setIfInBounds_toArray, List.set_cons_zero, List.set_cons_succ]
      refine wpAnyH_take (i := 37) (oi := { dst := some 58, op := Op.move (Operand.tmp 57), type := 4, pos := "law.go:332", after := _, guard := none }) (v := (.bool false)) rfl (by kernel_rfl) (by kernel_rfl) (by kernel_rfl) (fun _ _ _ h => h) (Or.inl ⟨by rfl, ?_⟩) (by assumption) ?_
      · intro w hSw
        (try dsimp only at hSw)
        go_simp
        try with_reducible rfl
      try simp only [Act.put, List.setIfInBounds_toArray, List.set_cons_zero, List.set_cons_succ]
      refine wpAnyH_take (i := 38) (oi := { dst := some 59, op := Op.move (Operand.tmp 4), type := 47, pos := "law.go:332", after := _, guard := some (37, false) }) (v := ?_) rfl (by kernel_rfl) (by kernel_rfl) (by kernel_rfl) (fun _ _ _ h => h) (Or.inl ⟨by rfl, ?_⟩) (by assumption) ?_
      rotate_left
      · intro w hSw
        (try dsimp only at hSw)
        go_simp
        try with_reducible rfl
      try simp only [Act.put, List.setIfInBounds_toArray, List.set_cons_zero, List.set_cons_succ]
      refine wpAnyH_ready (rs := [39]) (by kernel_rfl) (by simp) ?_
      refine AllReadyH.cons (o := { dst := some 60, op := Op.call { callee := Callee.value (Operand.func 43), args := #[Operand.tmp 59], argTypes := #[47] }, type := 47, pos := "law.go:332", after := _, guard := some (37, false) }) rfl (fun K hK => ?_) AllReadyH.nil
      go_simp
      go_at_call 43
      refine (mclone_no (HNO.out _ (bdrew W5 1))).mono ?_
      rintro e1 W1 ⟨rfl, rfl⟩
      first
        | refine hK.out _ _ ?_ (fun hHeld => ?_)
        | (go_wp2_with fail; refine hK.out _ _ ?_ (fun hHeld => ?_))
      · exact (HKP.out _ (bdrew W5 1))
      clear hK K
      try simp only [Act.put, List.setIfInBounds_toArray, List.set_cons_zero, List.set_cons_succ]
      refine wpAnyH_take (i := 40) (oi := { dst := some 61, op := Op.binOp BinOp.neq 47 (Operand.tmp 60) (Operand.const (Value.pointer none)) 47, type := 4, pos := "law.go:332", after := _, guard := some (37, false) }) (v := (.bool false)) rfl (by kernel_rfl) (by kernel_rfl) (by kernel_rfl) (fun _ _ _ h => h) (Or.inl ⟨by rfl, ?_⟩) (by assumption) ?_
      · intro w hSw
        (try dsimp only at hSw)
        go_simp
        try with_reducible rfl
      try simp only [Act.put, List.setIfInBounds_toArray, List.set_cons_zero, List.set_cons_succ]
      refine wpAnyH_take (i := 41) (oi := { dst := some 62, op := Op.pick (Operand.tmp 58) (Operand.const (Value.bool true)) (Operand.tmp 61), type := 4, pos := "law.go:332", after := _, guard := none }) (v := (.bool false)) rfl (by kernel_rfl) (by kernel_rfl) (by kernel_rfl) (fun _ _ _ h => h) (Or.inl ⟨by rfl, ?_⟩) (by assumption) ?_
      · intro w hSw
        (try dsimp only at hSw)
        go_simp
        try with_reducible rfl
      try simp only [Act.put, List.setIfInBounds_toArray, List.set_cons_zero, List.set_cons_succ]
      refine wpAnyH_done (by kernel_rfl) ?_ _
      clear hHeld
      go_wp2_with fail
      go_roundw
      case rel => exact ⟨j + 1, by omega, by go_num, hide (HB5.out.trans ((bdrew W5 1).mono HB5.out.size))⟩
      case measure => simp [intOf]; omega
    · clear hq1 hq2 hq3
      go_wp2_with fail
      refine (mawake_any (HE.out.below HBR.out)).mono ?_
      rintro e w9 ⟨rfl, hb9⟩
      go_wp2_with fail
      go_ret
      exact ⟨rfl, HBR.out.trans (hb9.mono HBR.out.size)⟩
end Go.Proofs.YtionbmlicmibgaaGreatDoor
