/- VaultChecks: the law. -/
import Derived.Test.YtgbdjcekpdfpjaaGreatDoorVAwake
import Derived.Test.YtgbdjcekpdfpjaaGreatDoorVRCheck
import Derived.Test.YtgbdjcekpdfpjaaGreatDoorVh
namespace Go.Proofs.YtgbdjcekpdfpjaaGreatDoor
set_option linter.unusedVariables false
set_option linter.unusedSimpArgs false
open Go.RowKit

set_option maxRecDepth 100000 in
set_option maxHeartbeats 4000000 in
theorem lawVChecks0 {w : World} (ht : Tab w) {v : Value} {s : Sn} (h : SnV w v s) {size : Int} (hz : Go.Proofs.YtgbdjcekpdfpjaaGreatDoor.fits size) : Calls Tryz.prog 5 #[v, .int .i64 size] w fun e w' => e = .returned (.bool true) ∧ Below w.heap.size w w' := by
  obtain ⟨vo, da, rfl, hv, hd, hf0, hf1⟩ := h
  obtain ⟨p, n, c, rfl⟩ := hd.sl
  obtain ⟨p1, n1, c1, rfl⟩ := hv.sl
  obtain ⟨X, hX⟩ : ∃ X, w.alloc (.cells #[.int .i64 s.ix, .int .i64 s.tm, .slice p1 n1 c1, .slice p n c] 42) = X := ⟨_, rfl⟩
  have hbX : Below w.heap.size w X := by rw [← hX]; exact balloc (Below.refl _ _) _
  have hrX : X.heap[w.heap.size]? = some (.cells #[.int .i64 s.ix, .int .i64 s.tm, .slice p1 n1 c1, .slice p n c] 42 (0, 0)) := by rw [← hX]; exact Array.getElem?_push_size
  have x0 : X.cell? ⟨w.heap.size, 0, none⟩ = some (.int .i64 s.ix) := by rw [cell_of_row X _ 0 _ _ (0, 0) hrX]; rfl
  have x1 : X.cell? ⟨w.heap.size, 1, none⟩ = some (.int .i64 s.tm) := by rw [cell_of_row X _ 1 _ _ (0, 0) hrX]; rfl
  have x2 : X.cell? ⟨w.heap.size, 2, none⟩ = some (.slice p1 n1 c1) := by rw [cell_of_row X _ 2 _ _ (0, 0) hrX]; rfl
  have x3 : X.cell? ⟨w.heap.size, 3, none⟩ = some (.slice p n c) := by rw [cell_of_row X _ 3 _ _ (0, 0) hrX]; rfl
  have HBX := hide hbX
  have HRX := hide hrX
  have HT := hide (ht.below hbX ht.lt)
  have HNV := hide (hv.below hbX)
  by_cases hb : 1000 < n1 ∨ 65536 < n
  · have HAW := hide (vawake_any HT.out)
    clear hd hv hbX hrX
    rcases Nat.lt_or_ge 1000 n1 with h1 | h1
    · have e2 : decide ((1000 : Int) < (n1 : Int)) = true := decide_eq_true (by omega)
      clear hb
      go_enter Tryz.func5, Tryz.ntmps5
      go_wp2_with (go_at_call 12; refine HAW.out.mono ?_; rintro e w2 ⟨rfl, hb2⟩)
      go_ret
      exact ⟨rfl, HBX.out.trans (hb2.mono HBX.out.size)⟩
    · have e2 : decide ((1000 : Int) < (n1 : Int)) = false := decide_eq_false (by omega)
      have h2 : 65536 < n := by omega
      have e3 : decide ((65536 : Int) < (n : Int)) = true := decide_eq_true (by omega)
      clear hb
      go_enter Tryz.func5, Tryz.ntmps5
      go_wp2_with (go_at_call 12; refine HAW.out.mono ?_; rintro e w2 ⟨rfl, hb2⟩)
      go_ret
      exact ⟨rfl, HBX.out.trans (hb2.mono HBX.out.size)⟩
  · have e1 : decide ((1000 : Int) < (n1 : Int)) = false := decide_eq_false (by omega)
    have e2 : decide ((65536 : Int) < (n : Int)) = false := decide_eq_false (by omega)
    have hn : n ≤ 65536 := by omega
    obtain ⟨z, e5⟩ : ∃ z : Nat, IntKind.u64.wrap size = (z : Int) := by
      have h0 : 0 ≤ IntKind.u64.wrap size := by rw [IntKind.wrap_u64]; omega
      exact ⟨(IntKind.u64.wrap size).toNat, by omega⟩
    obtain ⟨m, e6, hm⟩ : ∃ m : Nat, (z : Int).tmod 262146 = (m : Int) ∧ m < 262146 := ⟨z % 262146, by rw [Int.tmod_eq_emod_of_nonneg (by omega)]; omega, by omega⟩
    obtain ⟨w1, hm1, ho1, hb1, hl1⟩ := make_bytes X (n + m) (by omega)
    rw [Int.natCast_add] at hm1
    have hr1 := (hb1.block w.heap.size (Array.getElem?_eq_some_iff.1 hrX).1).trans hrX
    have z3 : w1.cell? ⟨w.heap.size, 3, none⟩ = some (.slice p n c) := by rw [cell_of_row w1 _ 3 _ _ (0, 0) hr1]; rfl
    have u3 := frozen_of_row w1 w.heap.size 3 _ _ hr1
    obtain ⟨F, hF⟩ : ∃ F, w1.setCell ⟨w.heap.size, 3, none⟩ (.slice (some ⟨X.heap.size, 0, none⟩) (n + m) (n + m)) = F := ⟨_, rfl⟩
    have hq1 := heap_setCell_same w1 w.heap.size 3 _ _ (.slice (some ⟨X.heap.size, 0, none⟩) (n + m) (n + m)) hr1
    simp only [List.setIfInBounds_toArray, List.set_cons_succ, List.set_cons_zero] at hq1
    have hq2 := chg_set w1 w.heap.size 3 (.slice (some ⟨X.heap.size, 0, none⟩) (n + m) (n + m))
    rw [hF] at hq1 hq2
    have hsX : X.heap.size = w.heap.size + 1 := by rw [← hX]; simp
    have f0 : F.cell? ⟨w.heap.size, 0, none⟩ = some (.int .i64 s.ix) := by rw [cell_of_row F _ 0 _ _ (0, 0) hq1]; rfl
    have f1 : F.cell? ⟨w.heap.size, 1, none⟩ = some (.int .i64 s.tm) := by rw [cell_of_row F _ 1 _ _ (0, 0) hq1]; rfl
    have f2 : F.cell? ⟨w.heap.size, 2, none⟩ = some (.slice p1 n1 c1) := by rw [cell_of_row F _ 2 _ _ (0, 0) hq1]; rfl
    have f3 : F.cell? ⟨w.heap.size, 3, none⟩ = some (.slice (some ⟨X.heap.size, 0, none⟩) (n + m) (n + m)) := by rw [cell_of_row F _ 3 _ _ (0, 0) hq1]; rfl
    have hbF : Below w.heap.size w F := Chg.to_below (hbX.trans (hb1.mono hbX.size)) hq2 (fun k e => by omega)
    have hsn : SnV F (.agg #[.int .i64 s.ix, .int .i64 s.tm, .slice p1 n1 c1, .slice (some ⟨X.heap.size, 0, none⟩) (n + m) (n + m)]) ⟨s.ix, s.tm, s.vo, List.replicate (n + m) 0⟩ := ⟨_, _, rfl, hv.below hbF, (ho1.chg hq2 (fun k e => by omega)).by_, hf0, hf1⟩
    obtain ⟨s', hs'⟩ : ∃ s', (⟨s.ix, s.tm, s.vo, List.replicate (n + m) 0⟩ : Sn) = s' := ⟨_, rfl⟩
    rw [hs'] at hsn
    have HSN := hide hsn
    have HTF := hide (ht.below hbF ht.lt)
    have HBF := hide hbF
    have HKF := hide (fun (W : World) (hW : Below F.heap.size F W) => And.intro ((hW.cell (lt_of_cell f0)).trans f0) (And.intro ((hW.cell (lt_of_cell f1)).trans f1) (And.intro ((hW.cell (lt_of_cell f2)).trans f2) ((hW.cell (lt_of_cell f3)).trans f3))))
    clear hb hd hv hbX hrX hr1 hq1 hq2 hbF hsn hs' hsX ho1 hb1 hl1
    go_enter Tryz.func5, Tryz.ntmps5
    go_wp2_with fail
    have e7 : (((s'.chk : Nat) : Int) == ((s'.chk : Nat) : Int)) = true := by simp
    refine wp_region_held_drew (S := fun W => W.cell? ⟨w.heap.size, 0, none⟩ = some (.int .i64 s.ix) ∧ W.cell? ⟨w.heap.size, 1, none⟩ = some (.int .i64 s.tm) ∧ W.cell? ⟨w.heap.size, 2, none⟩ = some (.slice p1 n1 c1) ∧ W.cell? ⟨w.heap.size, 3, none⟩ = some (.slice (some ⟨X.heap.size, 0, none⟩) (n + m) (n + m))) (by kernel_rfl) ?_ (fun hHeld => ?_)
    · (try dsimp only)
      exact HKF.out _ (below_drewN (Below.refl _ _) 1)
    refine wpAnyH_take (i := 0) (oi := { dst := some 26, op := Op.load 42 (Operand.tmp 2), type := 42, pos := "law.go:187", after := #[], guard := none }) (v := ?_) rfl (by kernel_rfl) (by kernel_rfl) (by kernel_rfl) (fun _ _ _ h => h) (Or.inl ⟨by rfl, ?_⟩) (by assumption) ?_
    rotate_left
    · intro w hSw
      (try dsimp only at hSw)
      go_simp
      try with_reducible rfl
    try simp only [Act.put, List.setIfInBounds_toArray, List.set_cons_zero, List.set_cons_succ]
    refine wpAnyH_take (i := 2) (oi := { dst := some 28, op := Op.load 42 (Operand.tmp 2), type := 42, pos := "law.go:187", after := #[], guard := none }) (v := ?_) rfl (by kernel_rfl) (by kernel_rfl) (by kernel_rfl) (fun _ _ _ h => h) (Or.inl ⟨by rfl, ?_⟩) (by assumption) ?_
    rotate_left
    · intro w hSw
      (try dsimp only at hSw)
      go_simp
      try with_reducible rfl
    try simp only [Act.put, List.setIfInBounds_toArray, List.set_cons_zero, List.set_cons_succ]
    refine wpAnyH_ready (rs := [1]) (by kernel_rfl) (by simp) ?_
    refine AllReadyH.cons (o := { dst := some 27, op := Op.call { callee := Callee.value (Operand.func 31), args := #[Operand.tmp 26], argTypes := #[42] }, type := 27, pos := "law.go:187", after := _, guard := none }) rfl (fun K hK => ?_) ?_
    · go_simp
      go_at_call 31
      refine (check_any' (HSN.out.below (below_drewN (Below.refl F.heap.size F) 1))).mono ?_
      rintro e w2 ⟨rfl, hb2⟩
      have HB2 : Hid (Below F.heap.size F w2) := hide ((below_drewN (Below.refl F.heap.size F) 1).trans hb2)
      clear hb2
      first
        | refine hK.out _ _ ?_ (fun hHeld => ?_)
        | (go_wp2_with fail; refine hK.out _ _ ?_ (fun hHeld => ?_))
      · (try dsimp only)
        exact HKF.out _ HB2.out
      clear hK K
      try simp only [Act.put, List.setIfInBounds_toArray, List.set_cons_zero, List.set_cons_succ]
      refine wpAnyH_ready (rs := [3]) (by kernel_rfl) (by simp) ?_
      refine AllReadyH.cons (o := { dst := some 29, op := Op.call { callee := Callee.value (Operand.func 32), args := #[Operand.tmp 28], argTypes := #[42] }, type := 27, pos := "law.go:187", after := _, guard := none }) rfl (fun K hK => ?_) ?_
      · go_simp
        go_at_call 32
        refine (vrcheck_any (HSN.out.below HB2.out)).mono ?_
        rintro e w3 ⟨rfl, hb3⟩
        have HB3 : Hid (Below F.heap.size F w3) := hide (HB2.out.trans (hb3.mono HB2.out.size))
        clear hb3
        first
          | refine hK.out _ _ ?_ (fun hHeld => ?_)
          | (go_wp2_with fail; refine hK.out _ _ ?_ (fun hHeld => ?_))
        · (try dsimp only)
          exact HKF.out _ HB3.out
        clear hK K
        try simp only [Act.put, List.setIfInBounds_toArray, List.set_cons_zero, List.set_cons_succ]
        refine wpAnyH_take (i := 4) (oi := { dst := some 30, op := Op.binOp BinOp.eql 27 (Operand.tmp 27) (Operand.tmp 29) 27, type := 4, pos := "law.go:187", after := _, guard := none }) (v := ?_) rfl (by kernel_rfl) (by kernel_rfl) (by kernel_rfl) (fun _ _ _ h => h) (Or.inl ⟨by rfl, ?_⟩) (by assumption) ?_
        rotate_left
        · intro w hSw
          (try dsimp only at hSw)
          go_simp
          try with_reducible rfl
        try simp only [Act.put, List.setIfInBounds_toArray, List.set_cons_zero, List.set_cons_succ]
        refine wpAnyH_take (i := 5) (oi := { dst := some 31, op := Op.move (Operand.tmp 30), type := 4, pos := "law.go:187", after := _, guard := none }) (v := ?_) rfl (by kernel_rfl) (by kernel_rfl) (by kernel_rfl) (fun _ _ _ h => h) (Or.inl ⟨by rfl, ?_⟩) (by assumption) ?_
        rotate_left
        · intro w hSw
          (try dsimp only at hSw)
          go_simp
          try with_reducible rfl
        try simp only [Act.put, List.setIfInBounds_toArray, List.set_cons_zero, List.set_cons_succ]
        refine wpAnyH_ready (rs := [6]) (by kernel_rfl) (by simp) ?_
        refine AllReadyH.cons (o := { dst := some 32, op := Op.call { callee := Callee.value (Operand.func 12), args := #[], argTypes := #[] }, type := 4, pos := "law.go:187", after := _, guard := some (5, true) }) rfl (fun K hK => ?_) ?_
        · go_simp
          go_at_call 12
          refine (vawake_any (HTF.out.below HB3.out HTF.out.lt)).mono ?_
          rintro e w4 ⟨rfl, hb4⟩
          have HB4 : Hid (Below F.heap.size F w4) := hide (HB3.out.trans (hb4.mono HB3.out.size))
          clear hb4
          first
            | refine hK.out _ _ ?_ (fun hHeld => ?_)
            | (go_wp2_with fail; refine hK.out _ _ ?_ (fun hHeld => ?_))
          · (try dsimp only)
            exact HKF.out _ HB4.out
          clear hK K
          try simp only [Act.put, List.setIfInBounds_toArray, List.set_cons_zero, List.set_cons_succ]
          refine wpAnyH_take (i := 7) (oi := { dst := some 33, op := Op.pick (Operand.tmp 31) (Operand.tmp 32) (Operand.const (Value.bool false)), type := 4, pos := "law.go:187", after := _, guard := none }) (v := ?_) rfl (by kernel_rfl) (by kernel_rfl) (by kernel_rfl) (fun _ _ _ h => h) (Or.inl ⟨by rfl, ?_⟩) (by assumption) ?_
          rotate_left
          · intro w hSw
            (try dsimp only at hSw)
            go_simp
            try with_reducible rfl
          try simp only [Act.put, List.setIfInBounds_toArray, List.set_cons_zero, List.set_cons_succ]
          refine wpAnyH_take (i := 8) (oi := { dst := some 4, op := Op.assign (Operand.tmp 33), type := 4, pos := "law.go:187", after := _, guard := none }) (v := ?_) rfl (by kernel_rfl) (by kernel_rfl) (by kernel_rfl) (fun _ _ _ h => h) (Or.inl ⟨by rfl, ?_⟩) (by assumption) ?_
          rotate_left
          · intro w hSw
            (try dsimp only at hSw)
            go_simp
            try with_reducible rfl
          try simp only [Act.put, List.setIfInBounds_toArray, List.set_cons_zero, List.set_cons_succ]
          refine wpAnyH_done (by kernel_rfl) ?_ _
          go_wp2_with fail
          go_ret
          exact ⟨rfl, HBF.out.trans (HB4.out.mono HBF.out.size)⟩
        exact AllReadyH.nil
      exact AllReadyH.nil
    exact AllReadyH.nil
theorem lawVChecks_any {w : World} (ht : Tab w) {d : Dsn} (h : DsnIn w d) (size : Int) (hz : (Lit.int .i64 size).wf = true) : Calls Tryz.prog 5 #[.agg (snC d).toArray, .int .i64 size] w fun e w' => e = .returned (.bool true) ∧ Below w.heap.size w w' :=
  lawVChecks0 ht (s := ⟨d.ix, d.tm, d.v, d.b⟩) ⟨_, _, rfl, h.h2, h.h3, h.h0, h.h1⟩ (fits_wf hz)
end Go.Proofs.YtgbdjcekpdfpjaaGreatDoor
