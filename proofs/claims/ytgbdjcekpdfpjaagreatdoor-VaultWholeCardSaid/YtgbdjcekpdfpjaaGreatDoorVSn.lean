/- A Do's state. -/
import Derived.Test.YtgbdjcekpdfpjaaGreatDoorVZero
import Derived.Test.YtgbdjcekpdfpjaaGreatDoorVh
namespace Go.Proofs.YtgbdjcekpdfpjaaGreatDoor
set_option linter.unusedVariables false
set_option linter.unusedSimpArgs false
open Go.RowKit

theorem step_appendZ {w : World} {ops : Array Oper} {o : Oper} {a : Act} {K : Act → World → Prop} {Q : Exit → Act → World → Prop} {E : Prop} (hgd : o.guard = none) (s x : Operand)
    (ho : o.op = .call { callee := .builtin .append, args := #[s, x], argTypes := #[40, 3] }) (hty : o.type = 40) {B : Nat} {v : Value} {l : List UInt8} {k : Nat}
    (hs : a.eval s = v) (hx : a.eval x = .int .i64 (k : Int)) (h : Own B w v l) (hl : l.length + k ≤ 140737488355328) (hB : B ≤ w.heap.size)
    (hK : ∀ v' w', Own B w' v' (l ++ List.replicate k 0) → Below B w w' → K (a.put o.dst v') w') : if Region.wanted o (yielded ops a.tmps) = true then Oper.wp Tryz.prog o a w K Q else E := by
  obtain ⟨v', w', hr, h1, h2⟩ := run_append_zeros h k hl hB
  have hw : Region.wanted o (yielded ops a.tmps) = true := by simp [Region.wanted, hgd]
  rw [if_pos hw]
  exact Lib.wp_append_run w s x 40 3 ho v _ hs hx v' w' (by rw [hty]; exact hr) (hK v' w' h1 h2)

/-- The state of a Do. -/
def Ddo.zs (d : Ddo) : Nat := (IntKind.u64.wrap d.size).toNat % 3000
def Ddo.sn (d : Ddo) : Sn := ⟨d.six, d.stm, d.sv, d.sd ++ List.replicate d.zs 0⟩

set_option maxRecDepth 100000 in
set_option maxHeartbeats 4000000 in
theorem vsnap_any {w : World} {d : Ddo} (h : DdoIn w d) (hv : d.sv.length * 8 ≤ 140737488355328) (hd : d.sd.length ≤ 140737488351232) : Calls Tryz.prog 21 #[.agg (doC d).toArray] w (OwP w d.sn) := by
  obtain ⟨m, hm⟩ : ∃ m, d.zs = m := ⟨_, rfl⟩
  have hmle : m ≤ 2999 := by rw [← hm]; unfold Ddo.zs; omega
  obtain ⟨z, e5⟩ : ∃ z : Nat, IntKind.u64.wrap d.size = (z : Int) := by
    have h0 : 0 ≤ IntKind.u64.wrap d.size := by rw [IntKind.wrap_u64]; omega
    exact ⟨(IntKind.u64.wrap d.size).toNat, by omega⟩
  have e6 : (z : Int).tmod 3000 = (m : Int) := by
    rw [Int.tmod_eq_emod_of_nonneg (by omega), ← hm]
    unfold Ddo.zs
    rw [e5]
    simp
  have e7 : wrap64 (m : Int) = (m : Int) := by unfold wrap64; omega
  have e8 : IntKind.i64.wrap (m : Int) = (m : Int) := by rw [IntKind.wrap_i64]; omega
  have hsn : d.sn = ⟨d.six, d.stm, d.sv, d.sd ++ List.replicate m 0⟩ := by unfold Ddo.sn; rw [hm]
  rw [hsn]
  obtain ⟨op, six, stm, psv, nsv, dsv, sv, psd, nsd, dsd, sd, size, n, keep, tear⟩ := d
  dsimp only at *
  unfold doC
  dsimp only
  obtain ⟨X, hX⟩ : ∃ X, ((w.alloc (.cells #[.int .i64 op, .int .i64 six, .int .i64 stm, .slice psv nsv dsv, .slice psd nsd dsd, .int .i64 size, .int .i64 n, .int .i64 keep, .int .i64 tear] 44)).alloc (.cells #[.int .i64 0, .int .i64 0, .slice none 0 0, .slice none 0 0] 42)).alloc (.cells #[.int .i64 six, .int .i64 stm, .slice psv nsv dsv, .slice psd nsd dsd] 42) = X := ⟨_, rfl⟩
  have hbX : Below w.heap.size w X := by rw [← hX]; exact balloc (balloc (balloc (Below.refl _ _) _) _) _
  have hsX : X.heap.size = w.heap.size + 3 := by rw [← hX]; simp
  have hr0 : X.heap[w.heap.size]? = some (.cells #[.int .i64 op, .int .i64 six, .int .i64 stm, .slice psv nsv dsv, .slice psd nsd dsd, .int .i64 size, .int .i64 n, .int .i64 keep, .int .i64 tear] 44 (0, 0)) := by
    rw [← hX, heap_alloc_old _ _ (by simp; omega), heap_alloc_old _ _ (by simp)]
    exact Array.getElem?_push_size
  have hr1 : X.heap[w.heap.size + 1]? = some (.cells #[.int .i64 0, .int .i64 0, .slice none 0 0, .slice none 0 0] 42 (0, 0)) := by
    rw [← hX, heap_alloc_old _ _ (by simp)]
    have := World.alloc_heap_new (w.alloc (.cells #[.int .i64 op, .int .i64 six, .int .i64 stm, .slice psv nsv dsv, .slice psd nsd dsd, .int .i64 size, .int .i64 n, .int .i64 keep, .int .i64 tear] 44)) (.cells #[.int .i64 0, .int .i64 0, .slice none 0 0, .slice none 0 0] 42)
    simpa using this
  have hr2 : X.heap[w.heap.size + 2]? = some (.cells #[.int .i64 six, .int .i64 stm, .slice psv nsv dsv, .slice psd nsd dsd] 42 (0, 0)) := by
    rw [← hX]
    have := World.alloc_heap_new ((w.alloc (.cells #[.int .i64 op, .int .i64 six, .int .i64 stm, .slice psv nsv dsv, .slice psd nsd dsd, .int .i64 size, .int .i64 n, .int .i64 keep, .int .i64 tear] 44)).alloc (.cells #[.int .i64 0, .int .i64 0, .slice none 0 0, .slice none 0 0] 42)) (.cells #[.int .i64 six, .int .i64 stm, .slice psv nsv dsv, .slice psd nsd dsd] 42)
    simpa using this
  have x0 : X.cell? ⟨w.heap.size + 2, 2, none⟩ = some (.slice psv nsv dsv) := by rw [cell_of_row X _ 2 _ _ (0, 0) hr2]; rfl
  have HCN := hide (cloneN_any (h.h1.below hbX) hv)
  have HBX := hide hbX
  have HSX := hide hsX
  have HR0 := hide hr0
  have HR1 := hide hr1
  have HR2a := hide hr2
  have HIN := hide h
  have HLM := hide (show sd.length + m ≤ 140737488355328 by omega)
  have HDL := hide (show sd.length ≤ 140737488355328 by omega)
  clear hv hd hm hmle h hbX hsX hr0 hr1 hr2 hsn
  go_enter Tryz.func21, Tryz.ntmps21
  go_wp2_with fail
  refine HCN.out.mono ?_
  rintro e w1 ⟨v1, rfl, ho1, hb1⟩
  obtain ⟨pv1, nv1, cv1, rfl⟩ := ho1.ns.sl
  have hs1 := hb1.size
  have hk2 := (hb1.block (w.heap.size + 2) (by have := HSX.out; omega)).trans HR2a.out
  have hk0 := (hb1.block w.heap.size (by have := HSX.out; omega)).trans HR0.out
  have hk1 := (hb1.block (w.heap.size + 1) (by have := HSX.out; omega)).trans HR1.out
  obtain ⟨hq1, hq2⟩ := set4_2 (.slice pv1 nv1 cv1) hk2
  obtain ⟨W2, hW2⟩ : ∃ W2, w1.setCell ⟨w.heap.size + 2, 2, none⟩ (.slice pv1 nv1 cv1) = W2 := ⟨_, rfl⟩
  rw [hW2] at hq1 hq2
  have b2 := cell_of_row w1 (w.heap.size + 2) 2 _ _ (0, 0) hk2
  have bf2 := frozen_of_row w1 (w.heap.size + 2) 2 _ _ hk2
  have hz2 := hq2.size
  have hj0 := (hq2.block w.heap.size (by have := HSX.out; omega) (by omega)).trans hk0
  have hj1 := (hq2.block (w.heap.size + 1) (by have := HSX.out; omega) (by omega)).trans hk1
  have hb2 : Below w.heap.size w W2 := Chg.to_below (HBX.out.trans (hb1.mono HBX.out.size)) hq2 (fun k e => by omega)
  have HB2 := hide hb2
  have HO1 := hide (ho1.chg hq2 fun k e => by have := HSX.out; omega)
  have HR2 := hide hq1
  have HJ1 := hide hj1
  have HLT := hide (show w.heap.size < W2.heap.size ∧ w.heap.size + 1 < W2.heap.size ∧ w.heap.size + 2 < W2.heap.size from ⟨by have := HSX.out; omega, by have := HSX.out; omega, by have := HSX.out; omega⟩)
  have f3 : W2.cell? ⟨w.heap.size + 2, 3, none⟩ = some (.slice psd nsd dsd) := by rw [cell_of_row W2 _ 3 _ _ (0, 0) hq1]; rfl
  have f5 : W2.cell? ⟨w.heap.size, 5, none⟩ = some (.int .i64 size) := by rw [cell_of_row W2 _ 5 _ _ (0, 0) hj0]; rfl
  have HKF := hide (fun (W : World) (hW : Below W2.heap.size W2 W) => And.intro ((hW.cell (lt_of_cell f3)).trans f3) ((hW.cell (lt_of_cell f5)).trans f5))
  have HCL := hide (fun (W : World) (hW : Below W2.heap.size W2 W) => sclone_any ((HIN.out.h2.below HB2.out).below hW) HDL.out)
  clear ho1 hb1 hs1 hk2 hk0 hk1 hq1 hq2 hz2 hj0 hj1 hb2 f3 f5
  go_wp2_with fail
  have g3 : W2.drew.cell? ⟨w.heap.size + 2, 3, none⟩ = some (.slice psd nsd dsd) := (HKF.out _ (below_drewN (Below.refl _ _) 1)).1
  have g5 : W2.drew.cell? ⟨w.heap.size, 5, none⟩ = some (.int .i64 size) := (HKF.out _ (below_drewN (Below.refl _ _) 1)).2
  refine wp_region_held_drew (S := fun _ => True) (by kernel_rfl) ?_ (fun hHeld => ?_)
  · (try dsimp only)
    try trivial
  refine wpAnyH_take (i := 0) (oi := { dst := some 10, op := Op.fieldAddr 42 (Operand.tmp 3) 3, type := 0, pos := "law.go:34", after := #[], guard := none }) (v := ?_) rfl (by kernel_rfl) (by kernel_rfl) (by kernel_rfl) (fun _ _ _ h => h) (Or.inl ⟨by rfl, ?_⟩) (by assumption) ?_
  rotate_left
  · intro w hSw
    (try dsimp only at hSw)
    go_simp
    try with_reducible rfl
  try simp only [Act.put, List.setIfInBounds_toArray, List.set_cons_zero, List.set_cons_succ]
  refine wpAnyH_take (i := 3) (oi := { dst := some 13, op := Op.fieldAddr 44 (Operand.tmp 1) 2, type := 0, pos := "law.go:34", after := #[], guard := none }) (v := ?_) rfl (by kernel_rfl) (by kernel_rfl) (by kernel_rfl) (fun _ _ _ h => h) (Or.inl ⟨by rfl, ?_⟩) (by assumption) ?_
  rotate_left
  · intro w hSw
    (try dsimp only at hSw)
    go_simp
    try with_reducible rfl
  try simp only [Act.put, List.setIfInBounds_toArray, List.set_cons_zero, List.set_cons_succ]
  refine wpAnyH_ready (rs := [1, 4]) (by kernel_rfl) (by simp) ?_
  refine AllReadyH.cons (o := { dst := some 11, op := Op.load 40 (Operand.tmp 10), type := 40, pos := "law.go:34", after := _, guard := none }) rfl (fun K hK => ?_) ?_
  · go_simp
    first
      | refine hK.out _ _ ?_ (fun hHeld => ?_)
      | (go_wp2_with fail; refine hK.out _ _ ?_ (fun hHeld => ?_))
    · (try dsimp only)
      try trivial
    clear hK K
    try simp only [Act.put, List.setIfInBounds_toArray, List.set_cons_zero, List.set_cons_succ]
    refine wpAnyH_ready (rs := [2, 4]) (by kernel_rfl) (by simp) ?_
    refine AllReadyH.cons (o := { dst := some 12, op := Op.call { callee := Callee.value (Operand.func 40), args := #[Operand.tmp 11], argTypes := #[40] }, type := 40, pos := "law.go:34", after := _, guard := none }) rfl (fun K hK => ?_) ?_
    · go_simp
      go_at_call 40
      refine (HCL.out _ (below_drewN (Below.refl W2.heap.size W2) 1)).mono ?_
      rintro e w3 ⟨v3, rfl, ho3, hb3⟩
      obtain ⟨p3, n3, c3, rfl⟩ := ho3.by_.sl
      have HO3 : Hid (Own W2.heap.size w3 (.slice p3 n3 c3) sd) := hide ho3
      have HB3 : Hid (Below W2.heap.size W2 w3) := hide ((below_drewN (Below.refl W2.heap.size W2) 1).trans hb3)
      obtain ⟨g3', g5'⟩ := HKF.out _ HB3.out
      clear ho3 hb3
      first
        | refine hK.out _ _ ?_ (fun hHeld => ?_)
        | (go_wp2_with fail; refine hK.out _ _ ?_ (fun hHeld => ?_))
      · (try dsimp only)
        try trivial
      clear hK K
      try simp only [Act.put, List.setIfInBounds_toArray, List.set_cons_zero, List.set_cons_succ]
      refine wpAnyH_ready (rs := [4]) (by kernel_rfl) (by simp) ?_
      refine AllReadyH.cons (o := { dst := some 14, op := Op.load 3 (Operand.tmp 13), type := 3, pos := "law.go:34", after := _, guard := none }) rfl (fun K hK => ?_) ?_
      · go_simp
        first
          | refine hK.out _ _ ?_ (fun hHeld => ?_)
          | (go_wp2_with fail; refine hK.out _ _ ?_ (fun hHeld => ?_))
        · (try dsimp only)
          try trivial
        clear hK K
        try simp only [Act.put, List.setIfInBounds_toArray, List.set_cons_zero, List.set_cons_succ]
        refine wpAnyH_take (i := 5) (oi := { dst := some 15, op := Op.convert 3 25 (Operand.tmp 14), type := 25, pos := "law.go:34", after := _, guard := none }) (v := ?_) rfl (by kernel_rfl) (by kernel_rfl) (by kernel_rfl) (fun _ _ _ h => h) (Or.inl ⟨by rfl, ?_⟩) (by assumption) ?_
        rotate_left
        · intro w hSw
          (try dsimp only at hSw)
          go_simp
          try with_reducible rfl
        try simp only [Act.put, List.setIfInBounds_toArray, List.set_cons_zero, List.set_cons_succ]
        refine wpAnyH_take (i := 6) (oi := { dst := some 16, op := Op.binOp BinOp.rem 25 (Operand.tmp 15) (Operand.const (Value.int IntKind.u64 3000)) 25, type := 25, pos := "law.go:34", after := _, guard := none }) (v := ?_) rfl (by kernel_rfl) (by kernel_rfl) (by kernel_rfl) (fun _ _ _ h => h) (Or.inl ⟨by rfl, ?_⟩) (by assumption) ?_
        rotate_left
        · intro w hSw
          (try dsimp only at hSw)
          go_simp
          try with_reducible rfl
        try simp only [Act.put, List.setIfInBounds_toArray, List.set_cons_zero, List.set_cons_succ]
        refine wpAnyH_take (i := 7) (oi := { dst := some 17, op := Op.convert 25 3 (Operand.tmp 16), type := 3, pos := "law.go:34", after := _, guard := none }) (v := ?_) rfl (by kernel_rfl) (by kernel_rfl) (by kernel_rfl) (fun _ _ _ h => h) (Or.inl ⟨by rfl, ?_⟩) (by assumption) ?_
        rotate_left
        · intro w hSw
          (try dsimp only at hSw)
          go_simp
          try with_reducible rfl
        try simp only [Act.put, List.setIfInBounds_toArray, List.set_cons_zero, List.set_cons_succ]
        refine wpAnyH_ready (rs := [8]) (by kernel_rfl) (by simp) ?_
        refine AllReadyH.cons (o := { dst := some 18, op := Op.call { callee := Callee.builtin Builtin.append, args := #[Operand.tmp 12, Operand.tmp 17], argTypes := #[40, 3] }, type := 40, pos := "law.go:34", after := _, guard := none }) rfl (fun K hK => ?_) ?_
        · refine step_appendZ (by rfl) _ _ (by rfl) (by rfl) (by rfl) (by rfl) HO3.out HLM.out (HB3.out.size) ?_
          intro v4 w4 ho4 hb4
          obtain ⟨p4, n4, c4, rfl⟩ := ho4.by_.sl
          have HO4 := hide ho4
          have HB4 : Hid (Below W2.heap.size W2 w4) := hide (HB3.out.trans hb4)
          have hr4 := (HB4.out.block (w.heap.size + 2) HLT.out.2.2).trans HR2.out
          have y3 := cell_of_row w4 (w.heap.size + 2) 3 _ _ (0, 0) hr4
          have yf3 := frozen_of_row w4 (w.heap.size + 2) 3 _ _ hr4
          clear ho4 hb4 hr4
          first
            | refine hK.out _ _ ?_ (fun hHeld => ?_)
            | (go_wp2_with fail; refine hK.out _ _ ?_ (fun hHeld => ?_))
          · (try dsimp only)
            try trivial
          clear hK K
          try simp only [Act.put, List.setIfInBounds_toArray, List.set_cons_zero, List.set_cons_succ]
          refine wpAnyH_take (i := 9) (oi := { dst := some 19, op := Op.fieldAddr 42 (Operand.tmp 3) 3, type := 0, pos := "law.go:34", after := _, guard := none }) (v := ?_) rfl (by kernel_rfl) (by kernel_rfl) (by kernel_rfl) (fun _ _ _ h => h) (Or.inl ⟨by rfl, ?_⟩) (by assumption) ?_
          rotate_left
          · intro w hSw
            (try dsimp only at hSw)
            go_simp
            try with_reducible rfl
          try simp only [Act.put, List.setIfInBounds_toArray, List.set_cons_zero, List.set_cons_succ]
          refine wpAnyH_ready (rs := [10]) (by kernel_rfl) (by simp) ?_
          refine AllReadyH.cons (o := { dst := none, op := Op.store 40 (Operand.tmp 19) (Operand.tmp 18), type := 0, pos := "law.go:34", after := _, guard := none }) rfl (fun K hK => ?_) ?_
          · go_simp
            first
              | refine hK.out _ _ ?_ (fun hHeld => ?_)
              | (go_wp2_with fail; refine hK.out _ _ ?_ (fun hHeld => ?_))
            · (try dsimp only)
              try trivial
            clear hK K
            try simp only [Act.put, List.setIfInBounds_toArray, List.set_cons_zero, List.set_cons_succ]
            refine wpAnyH_done (by kernel_rfl) ?_ _
            (try dsimp only)
            have hr4' := (HB4.out.block (w.heap.size + 2) HLT.out.2.2).trans HR2.out
            have hj4 := (HB4.out.block (w.heap.size + 1) HLT.out.2.1).trans HJ1.out
            obtain ⟨hq5, hc5⟩ := set4_3 (.slice p4 n4 c4) hr4'
            obtain ⟨W5, hW5⟩ : ∃ W5, w4.setCell ⟨w.heap.size + 1 + 1, 3, none⟩ (.slice p4 n4 c4) = W5 := ⟨_, rfl⟩
            have e25 : w4.setCell ⟨w.heap.size + 2, 3, none⟩ (.slice p4 n4 c4) = W5 := hW5
            rw [e25] at hq5 hc5
            rw [hW5]
            have hs4 := HB4.out.size
            have hj5 := (hc5.block (w.heap.size + 1) (by have := HLT.out; omega) (by omega)).trans hj4
            have HOA := hide ((HO1.out.below HB4.out).chg hc5 fun k e => by have := HSX.out; omega)
            have HOB := hide (HO4.out.chg hc5 fun k e => by have := HLT.out; omega)
            have HB5 := hide (Chg.to_below (HB2.out.trans (HB4.out.mono HB2.out.size)) hc5 fun k e => by omega)
            clear hW5 e25 hr4' hj4 hs4 hc5 g3 g5 y3 yf3
            have r0 : W5.cell? ⟨w.heap.size + 2, 0, none⟩ = some (.int .i64 six) := by rw [cell_of_row W5 _ 0 _ _ (0, 0) hq5]; rfl
            have r1 : W5.cell? ⟨w.heap.size + 2, 1, none⟩ = some (.int .i64 stm) := by rw [cell_of_row W5 _ 1 _ _ (0, 0) hq5]; rfl
            have r2 : W5.cell? ⟨w.heap.size + 2, 2, none⟩ = some (.slice pv1 nv1 cv1) := by rw [cell_of_row W5 _ 2 _ _ (0, 0) hq5]; rfl
            have r3 : W5.cell? ⟨w.heap.size + 2, 3, none⟩ = some (.slice p4 n4 c4) := by rw [cell_of_row W5 _ 3 _ _ (0, 0) hq5]; rfl
            have t0 : W5.cell? ⟨w.heap.size + 1, 0, none⟩ = some (.int .i64 0) := by rw [cell_of_row W5 _ 0 _ _ (0, 0) hj5]; rfl
            have t1 : W5.cell? ⟨w.heap.size + 1, 1, none⟩ = some (.int .i64 0) := by rw [cell_of_row W5 _ 1 _ _ (0, 0) hj5]; rfl
            have t2 : W5.cell? ⟨w.heap.size + 1, 2, none⟩ = some (.slice none 0 0) := by rw [cell_of_row W5 _ 2 _ _ (0, 0) hj5]; rfl
            have t3 : W5.cell? ⟨w.heap.size + 1, 3, none⟩ = some (.slice none 0 0) := by rw [cell_of_row W5 _ 3 _ _ (0, 0) hj5]; rfl
            have s0 := frozen_of_row W5 (w.heap.size + 1) 0 _ _ hj5
            have s1 := frozen_of_row W5 (w.heap.size + 1) 1 _ _ hj5
            have s2 := frozen_of_row W5 (w.heap.size + 1) 2 _ _ hj5
            have s3 := frozen_of_row W5 (w.heap.size + 1) 3 _ _ hj5
            obtain ⟨hq6, hc6⟩ := set4 (.int .i64 six) (.int .i64 stm) (.slice pv1 nv1 cv1) (.slice p4 n4 c4) hj5
            obtain ⟨F, hF⟩ : ∃ F, ((((W5.setCell ⟨w.heap.size + 1, 0, none⟩ (.int .i64 six)).setCell ⟨w.heap.size + 1, 1, none⟩ (.int .i64 stm)).setCell ⟨w.heap.size + 1, 2, none⟩ (.slice pv1 nv1 cv1)).setCell ⟨w.heap.size + 1, 3, none⟩ (.slice p4 n4 c4)) = F := ⟨_, rfl⟩
            rw [hF] at hq6 hc6
            have v0 : F.cell? ⟨w.heap.size + 1, 0, none⟩ = some (.int .i64 six) := by rw [cell_of_row F _ 0 _ _ (0, 0) hq6]; rfl
            have v1 : F.cell? ⟨w.heap.size + 1, 1, none⟩ = some (.int .i64 stm) := by rw [cell_of_row F _ 1 _ _ (0, 0) hq6]; rfl
            have v2 : F.cell? ⟨w.heap.size + 1, 2, none⟩ = some (.slice pv1 nv1 cv1) := by rw [cell_of_row F _ 2 _ _ (0, 0) hq6]; rfl
            have v3 : F.cell? ⟨w.heap.size + 1, 3, none⟩ = some (.slice p4 n4 c4) := by rw [cell_of_row F _ 3 _ _ (0, 0) hq6]; rfl
            have HOF := hide (show SnO w.heap.size F (.agg #[.int .i64 six, .int .i64 stm, .slice pv1 nv1 cv1, .slice p4 n4 c4]) ⟨six, stm, sv, sd ++ List.replicate m 0⟩ from ⟨_, _, rfl, (HOA.out.chg hc6 fun k e => by have := HSX.out; omega).mono (by have := HSX.out; omega), (HOB.out.chg hc6 fun k e => by have := HLT.out; omega).mono (by have := HLT.out; omega), HIN.out.h3, HIN.out.h4⟩)
            have HBF := hide (Chg.to_below HB5.out hc6 fun k e => by omega)
            clear hq5 hj5 hq6 hc6
            go_wp2_with fail
            refine bodyPost_ret (v := .agg #[.int .i64 six, .int .i64 stm, .slice pv1 nv1 cv1, .slice p4 n4 c4]) (by simp [results, Tryz.results21, go_sem, v0, v1, v2, v3]) rfl ?_
            exact ⟨_, rfl, HOF.out, HBF.out⟩
          exact AllReadyH.nil
        exact AllReadyH.nil
      exact AllReadyH.nil
    refine AllReadyH.cons (o := { dst := some 14, op := Op.load 3 (Operand.tmp 13), type := 3, pos := "law.go:34", after := _, guard := none }) rfl (fun K hK => ?_) ?_
    · go_simp
      first
        | refine hK.out _ _ ?_ (fun hHeld => ?_)
        | (go_wp2_with fail; refine hK.out _ _ ?_ (fun hHeld => ?_))
      · (try dsimp only)
        try trivial
      clear hK K
      try simp only [Act.put, List.setIfInBounds_toArray, List.set_cons_zero, List.set_cons_succ]
      refine wpAnyH_take (i := 5) (oi := { dst := some 15, op := Op.convert 3 25 (Operand.tmp 14), type := 25, pos := "law.go:34", after := _, guard := none }) (v := ?_) rfl (by kernel_rfl) (by kernel_rfl) (by kernel_rfl) (fun _ _ _ h => h) (Or.inl ⟨by rfl, ?_⟩) (by assumption) ?_
      rotate_left
      · intro w hSw
        (try dsimp only at hSw)
        go_simp
        try with_reducible rfl
      try simp only [Act.put, List.setIfInBounds_toArray, List.set_cons_zero, List.set_cons_succ]
      refine wpAnyH_take (i := 6) (oi := { dst := some 16, op := Op.binOp BinOp.rem 25 (Operand.tmp 15) (Operand.const (Value.int IntKind.u64 3000)) 25, type := 25, pos := "law.go:34", after := _, guard := none }) (v := ?_) rfl (by kernel_rfl) (by kernel_rfl) (by kernel_rfl) (fun _ _ _ h => h) (Or.inl ⟨by rfl, ?_⟩) (by assumption) ?_
      rotate_left
      · intro w hSw
        (try dsimp only at hSw)
        go_simp
        try with_reducible rfl
      try simp only [Act.put, List.setIfInBounds_toArray, List.set_cons_zero, List.set_cons_succ]
      refine wpAnyH_take (i := 7) (oi := { dst := some 17, op := Op.convert 25 3 (Operand.tmp 16), type := 3, pos := "law.go:34", after := _, guard := none }) (v := ?_) rfl (by kernel_rfl) (by kernel_rfl) (by kernel_rfl) (fun _ _ _ h => h) (Or.inl ⟨by rfl, ?_⟩) (by assumption) ?_
      rotate_left
      · intro w hSw
        (try dsimp only at hSw)
        go_simp
        try with_reducible rfl
      try simp only [Act.put, List.setIfInBounds_toArray, List.set_cons_zero, List.set_cons_succ]
      refine wpAnyH_ready (rs := [2]) (by kernel_rfl) (by simp) ?_
      refine AllReadyH.cons (o := { dst := some 12, op := Op.call { callee := Callee.value (Operand.func 40), args := #[Operand.tmp 11], argTypes := #[40] }, type := 40, pos := "law.go:34", after := _, guard := none }) rfl (fun K hK => ?_) ?_
      · go_simp
        go_at_call 40
        refine (HCL.out _ (below_drewN (Below.refl W2.heap.size W2) 1)).mono ?_
        rintro e w3 ⟨v3, rfl, ho3, hb3⟩
        obtain ⟨p3, n3, c3, rfl⟩ := ho3.by_.sl
        have HO3 : Hid (Own W2.heap.size w3 (.slice p3 n3 c3) sd) := hide ho3
        have HB3 : Hid (Below W2.heap.size W2 w3) := hide ((below_drewN (Below.refl W2.heap.size W2) 1).trans hb3)
        obtain ⟨g3', g5'⟩ := HKF.out _ HB3.out
        clear ho3 hb3
        first
          | refine hK.out _ _ ?_ (fun hHeld => ?_)
          | (go_wp2_with fail; refine hK.out _ _ ?_ (fun hHeld => ?_))
        · (try dsimp only)
          try trivial
        clear hK K
        try simp only [Act.put, List.setIfInBounds_toArray, List.set_cons_zero, List.set_cons_succ]
        refine wpAnyH_ready (rs := [8]) (by kernel_rfl) (by simp) ?_
        refine AllReadyH.cons (o := { dst := some 18, op := Op.call { callee := Callee.builtin Builtin.append, args := #[Operand.tmp 12, Operand.tmp 17], argTypes := #[40, 3] }, type := 40, pos := "law.go:34", after := _, guard := none }) rfl (fun K hK => ?_) ?_
        · refine step_appendZ (by rfl) _ _ (by rfl) (by rfl) (by rfl) (by rfl) HO3.out HLM.out (HB3.out.size) ?_
          intro v4 w4 ho4 hb4
          obtain ⟨p4, n4, c4, rfl⟩ := ho4.by_.sl
          have HO4 := hide ho4
          have HB4 : Hid (Below W2.heap.size W2 w4) := hide (HB3.out.trans hb4)
          have hr4 := (HB4.out.block (w.heap.size + 2) HLT.out.2.2).trans HR2.out
          have y3 := cell_of_row w4 (w.heap.size + 2) 3 _ _ (0, 0) hr4
          have yf3 := frozen_of_row w4 (w.heap.size + 2) 3 _ _ hr4
          clear ho4 hb4 hr4
          first
            | refine hK.out _ _ ?_ (fun hHeld => ?_)
            | (go_wp2_with fail; refine hK.out _ _ ?_ (fun hHeld => ?_))
          · (try dsimp only)
            try trivial
          clear hK K
          try simp only [Act.put, List.setIfInBounds_toArray, List.set_cons_zero, List.set_cons_succ]
          refine wpAnyH_take (i := 9) (oi := { dst := some 19, op := Op.fieldAddr 42 (Operand.tmp 3) 3, type := 0, pos := "law.go:34", after := _, guard := none }) (v := ?_) rfl (by kernel_rfl) (by kernel_rfl) (by kernel_rfl) (fun _ _ _ h => h) (Or.inl ⟨by rfl, ?_⟩) (by assumption) ?_
          rotate_left
          · intro w hSw
            (try dsimp only at hSw)
            go_simp
            try with_reducible rfl
          try simp only [Act.put, List.setIfInBounds_toArray, List.set_cons_zero, List.set_cons_succ]
          refine wpAnyH_ready (rs := [10]) (by kernel_rfl) (by simp) ?_
          refine AllReadyH.cons (o := { dst := none, op := Op.store 40 (Operand.tmp 19) (Operand.tmp 18), type := 0, pos := "law.go:34", after := _, guard := none }) rfl (fun K hK => ?_) ?_
          · go_simp
            first
              | refine hK.out _ _ ?_ (fun hHeld => ?_)
              | (go_wp2_with fail; refine hK.out _ _ ?_ (fun hHeld => ?_))
            · (try dsimp only)
              try trivial
            clear hK K
            try simp only [Act.put, List.setIfInBounds_toArray, List.set_cons_zero, List.set_cons_succ]
            refine wpAnyH_done (by kernel_rfl) ?_ _
            (try dsimp only)
            have hr4' := (HB4.out.block (w.heap.size + 2) HLT.out.2.2).trans HR2.out
            have hj4 := (HB4.out.block (w.heap.size + 1) HLT.out.2.1).trans HJ1.out
            obtain ⟨hq5, hc5⟩ := set4_3 (.slice p4 n4 c4) hr4'
            obtain ⟨W5, hW5⟩ : ∃ W5, w4.setCell ⟨w.heap.size + 1 + 1, 3, none⟩ (.slice p4 n4 c4) = W5 := ⟨_, rfl⟩
            have e25 : w4.setCell ⟨w.heap.size + 2, 3, none⟩ (.slice p4 n4 c4) = W5 := hW5
            rw [e25] at hq5 hc5
            rw [hW5]
            have hs4 := HB4.out.size
            have hj5 := (hc5.block (w.heap.size + 1) (by have := HLT.out; omega) (by omega)).trans hj4
            have HOA := hide ((HO1.out.below HB4.out).chg hc5 fun k e => by have := HSX.out; omega)
            have HOB := hide (HO4.out.chg hc5 fun k e => by have := HLT.out; omega)
            have HB5 := hide (Chg.to_below (HB2.out.trans (HB4.out.mono HB2.out.size)) hc5 fun k e => by omega)
            clear hW5 e25 hr4' hj4 hs4 hc5 g3 g5 y3 yf3
            have r0 : W5.cell? ⟨w.heap.size + 2, 0, none⟩ = some (.int .i64 six) := by rw [cell_of_row W5 _ 0 _ _ (0, 0) hq5]; rfl
            have r1 : W5.cell? ⟨w.heap.size + 2, 1, none⟩ = some (.int .i64 stm) := by rw [cell_of_row W5 _ 1 _ _ (0, 0) hq5]; rfl
            have r2 : W5.cell? ⟨w.heap.size + 2, 2, none⟩ = some (.slice pv1 nv1 cv1) := by rw [cell_of_row W5 _ 2 _ _ (0, 0) hq5]; rfl
            have r3 : W5.cell? ⟨w.heap.size + 2, 3, none⟩ = some (.slice p4 n4 c4) := by rw [cell_of_row W5 _ 3 _ _ (0, 0) hq5]; rfl
            have t0 : W5.cell? ⟨w.heap.size + 1, 0, none⟩ = some (.int .i64 0) := by rw [cell_of_row W5 _ 0 _ _ (0, 0) hj5]; rfl
            have t1 : W5.cell? ⟨w.heap.size + 1, 1, none⟩ = some (.int .i64 0) := by rw [cell_of_row W5 _ 1 _ _ (0, 0) hj5]; rfl
            have t2 : W5.cell? ⟨w.heap.size + 1, 2, none⟩ = some (.slice none 0 0) := by rw [cell_of_row W5 _ 2 _ _ (0, 0) hj5]; rfl
            have t3 : W5.cell? ⟨w.heap.size + 1, 3, none⟩ = some (.slice none 0 0) := by rw [cell_of_row W5 _ 3 _ _ (0, 0) hj5]; rfl
            have s0 := frozen_of_row W5 (w.heap.size + 1) 0 _ _ hj5
            have s1 := frozen_of_row W5 (w.heap.size + 1) 1 _ _ hj5
            have s2 := frozen_of_row W5 (w.heap.size + 1) 2 _ _ hj5
            have s3 := frozen_of_row W5 (w.heap.size + 1) 3 _ _ hj5
            obtain ⟨hq6, hc6⟩ := set4 (.int .i64 six) (.int .i64 stm) (.slice pv1 nv1 cv1) (.slice p4 n4 c4) hj5
            obtain ⟨F, hF⟩ : ∃ F, ((((W5.setCell ⟨w.heap.size + 1, 0, none⟩ (.int .i64 six)).setCell ⟨w.heap.size + 1, 1, none⟩ (.int .i64 stm)).setCell ⟨w.heap.size + 1, 2, none⟩ (.slice pv1 nv1 cv1)).setCell ⟨w.heap.size + 1, 3, none⟩ (.slice p4 n4 c4)) = F := ⟨_, rfl⟩
            rw [hF] at hq6 hc6
            have v0 : F.cell? ⟨w.heap.size + 1, 0, none⟩ = some (.int .i64 six) := by rw [cell_of_row F _ 0 _ _ (0, 0) hq6]; rfl
            have v1 : F.cell? ⟨w.heap.size + 1, 1, none⟩ = some (.int .i64 stm) := by rw [cell_of_row F _ 1 _ _ (0, 0) hq6]; rfl
            have v2 : F.cell? ⟨w.heap.size + 1, 2, none⟩ = some (.slice pv1 nv1 cv1) := by rw [cell_of_row F _ 2 _ _ (0, 0) hq6]; rfl
            have v3 : F.cell? ⟨w.heap.size + 1, 3, none⟩ = some (.slice p4 n4 c4) := by rw [cell_of_row F _ 3 _ _ (0, 0) hq6]; rfl
            have HOF := hide (show SnO w.heap.size F (.agg #[.int .i64 six, .int .i64 stm, .slice pv1 nv1 cv1, .slice p4 n4 c4]) ⟨six, stm, sv, sd ++ List.replicate m 0⟩ from ⟨_, _, rfl, (HOA.out.chg hc6 fun k e => by have := HSX.out; omega).mono (by have := HSX.out; omega), (HOB.out.chg hc6 fun k e => by have := HLT.out; omega).mono (by have := HLT.out; omega), HIN.out.h3, HIN.out.h4⟩)
            have HBF := hide (Chg.to_below HB5.out hc6 fun k e => by omega)
            clear hq5 hj5 hq6 hc6
            go_wp2_with fail
            refine bodyPost_ret (v := .agg #[.int .i64 six, .int .i64 stm, .slice pv1 nv1 cv1, .slice p4 n4 c4]) (by simp [results, Tryz.results21, go_sem, v0, v1, v2, v3]) rfl ?_
            exact ⟨_, rfl, HOF.out, HBF.out⟩
          exact AllReadyH.nil
        exact AllReadyH.nil
      exact AllReadyH.nil
    exact AllReadyH.nil
  refine AllReadyH.cons (o := { dst := some 14, op := Op.load 3 (Operand.tmp 13), type := 3, pos := "law.go:34", after := _, guard := none }) rfl (fun K hK => ?_) ?_
  · go_simp
    first
      | refine hK.out _ _ ?_ (fun hHeld => ?_)
      | (go_wp2_with fail; refine hK.out _ _ ?_ (fun hHeld => ?_))
    · (try dsimp only)
      try trivial
    clear hK K
    try simp only [Act.put, List.setIfInBounds_toArray, List.set_cons_zero, List.set_cons_succ]
    refine wpAnyH_take (i := 5) (oi := { dst := some 15, op := Op.convert 3 25 (Operand.tmp 14), type := 25, pos := "law.go:34", after := _, guard := none }) (v := ?_) rfl (by kernel_rfl) (by kernel_rfl) (by kernel_rfl) (fun _ _ _ h => h) (Or.inl ⟨by rfl, ?_⟩) (by assumption) ?_
    rotate_left
    · intro w hSw
      (try dsimp only at hSw)
      go_simp
      try with_reducible rfl
    try simp only [Act.put, List.setIfInBounds_toArray, List.set_cons_zero, List.set_cons_succ]
    refine wpAnyH_take (i := 6) (oi := { dst := some 16, op := Op.binOp BinOp.rem 25 (Operand.tmp 15) (Operand.const (Value.int IntKind.u64 3000)) 25, type := 25, pos := "law.go:34", after := _, guard := none }) (v := ?_) rfl (by kernel_rfl) (by kernel_rfl) (by kernel_rfl) (fun _ _ _ h => h) (Or.inl ⟨by rfl, ?_⟩) (by assumption) ?_
    rotate_left
    · intro w hSw
      (try dsimp only at hSw)
      go_simp
      try with_reducible rfl
    try simp only [Act.put, List.setIfInBounds_toArray, List.set_cons_zero, List.set_cons_succ]
    refine wpAnyH_take (i := 7) (oi := { dst := some 17, op := Op.convert 25 3 (Operand.tmp 16), type := 3, pos := "law.go:34", after := _, guard := none }) (v := ?_) rfl (by kernel_rfl) (by kernel_rfl) (by kernel_rfl) (fun _ _ _ h => h) (Or.inl ⟨by rfl, ?_⟩) (by assumption) ?_
    rotate_left
    · intro w hSw
      (try dsimp only at hSw)
      go_simp
      try with_reducible rfl
    try simp only [Act.put, List.setIfInBounds_toArray, List.set_cons_zero, List.set_cons_succ]
    refine wpAnyH_ready (rs := [1]) (by kernel_rfl) (by simp) ?_
    refine AllReadyH.cons (o := { dst := some 11, op := Op.load 40 (Operand.tmp 10), type := 40, pos := "law.go:34", after := _, guard := none }) rfl (fun K hK => ?_) ?_
    · go_simp
      first
        | refine hK.out _ _ ?_ (fun hHeld => ?_)
        | (go_wp2_with fail; refine hK.out _ _ ?_ (fun hHeld => ?_))
      · (try dsimp only)
        try trivial
      clear hK K
      try simp only [Act.put, List.setIfInBounds_toArray, List.set_cons_zero, List.set_cons_succ]
      refine wpAnyH_ready (rs := [2]) (by kernel_rfl) (by simp) ?_
      refine AllReadyH.cons (o := { dst := some 12, op := Op.call { callee := Callee.value (Operand.func 40), args := #[Operand.tmp 11], argTypes := #[40] }, type := 40, pos := "law.go:34", after := _, guard := none }) rfl (fun K hK => ?_) ?_
      · go_simp
        go_at_call 40
        refine (HCL.out _ (below_drewN (Below.refl W2.heap.size W2) 1)).mono ?_
        rintro e w3 ⟨v3, rfl, ho3, hb3⟩
        obtain ⟨p3, n3, c3, rfl⟩ := ho3.by_.sl
        have HO3 : Hid (Own W2.heap.size w3 (.slice p3 n3 c3) sd) := hide ho3
        have HB3 : Hid (Below W2.heap.size W2 w3) := hide ((below_drewN (Below.refl W2.heap.size W2) 1).trans hb3)
        obtain ⟨g3', g5'⟩ := HKF.out _ HB3.out
        clear ho3 hb3
        first
          | refine hK.out _ _ ?_ (fun hHeld => ?_)
          | (go_wp2_with fail; refine hK.out _ _ ?_ (fun hHeld => ?_))
        · (try dsimp only)
          try trivial
        clear hK K
        try simp only [Act.put, List.setIfInBounds_toArray, List.set_cons_zero, List.set_cons_succ]
        refine wpAnyH_ready (rs := [8]) (by kernel_rfl) (by simp) ?_
        refine AllReadyH.cons (o := { dst := some 18, op := Op.call { callee := Callee.builtin Builtin.append, args := #[Operand.tmp 12, Operand.tmp 17], argTypes := #[40, 3] }, type := 40, pos := "law.go:34", after := _, guard := none }) rfl (fun K hK => ?_) ?_
        · refine step_appendZ (by rfl) _ _ (by rfl) (by rfl) (by rfl) (by rfl) HO3.out HLM.out (HB3.out.size) ?_
          intro v4 w4 ho4 hb4
          obtain ⟨p4, n4, c4, rfl⟩ := ho4.by_.sl
          have HO4 := hide ho4
          have HB4 : Hid (Below W2.heap.size W2 w4) := hide (HB3.out.trans hb4)
          have hr4 := (HB4.out.block (w.heap.size + 2) HLT.out.2.2).trans HR2.out
          have y3 := cell_of_row w4 (w.heap.size + 2) 3 _ _ (0, 0) hr4
          have yf3 := frozen_of_row w4 (w.heap.size + 2) 3 _ _ hr4
          clear ho4 hb4 hr4
          first
            | refine hK.out _ _ ?_ (fun hHeld => ?_)
            | (go_wp2_with fail; refine hK.out _ _ ?_ (fun hHeld => ?_))
          · (try dsimp only)
            try trivial
          clear hK K
          try simp only [Act.put, List.setIfInBounds_toArray, List.set_cons_zero, List.set_cons_succ]
          refine wpAnyH_take (i := 9) (oi := { dst := some 19, op := Op.fieldAddr 42 (Operand.tmp 3) 3, type := 0, pos := "law.go:34", after := _, guard := none }) (v := ?_) rfl (by kernel_rfl) (by kernel_rfl) (by kernel_rfl) (fun _ _ _ h => h) (Or.inl ⟨by rfl, ?_⟩) (by assumption) ?_
          rotate_left
          · intro w hSw
            (try dsimp only at hSw)
            go_simp
            try with_reducible rfl
          try simp only [Act.put, List.setIfInBounds_toArray, List.set_cons_zero, List.set_cons_succ]
          refine wpAnyH_ready (rs := [10]) (by kernel_rfl) (by simp) ?_
          refine AllReadyH.cons (o := { dst := none, op := Op.store 40 (Operand.tmp 19) (Operand.tmp 18), type := 0, pos := "law.go:34", after := _, guard := none }) rfl (fun K hK => ?_) ?_
          · go_simp
            first
              | refine hK.out _ _ ?_ (fun hHeld => ?_)
              | (go_wp2_with fail; refine hK.out _ _ ?_ (fun hHeld => ?_))
            · (try dsimp only)
              try trivial
            clear hK K
            try simp only [Act.put, List.setIfInBounds_toArray, List.set_cons_zero, List.set_cons_succ]
            refine wpAnyH_done (by kernel_rfl) ?_ _
            (try dsimp only)
            have hr4' := (HB4.out.block (w.heap.size + 2) HLT.out.2.2).trans HR2.out
            have hj4 := (HB4.out.block (w.heap.size + 1) HLT.out.2.1).trans HJ1.out
            obtain ⟨hq5, hc5⟩ := set4_3 (.slice p4 n4 c4) hr4'
            obtain ⟨W5, hW5⟩ : ∃ W5, w4.setCell ⟨w.heap.size + 1 + 1, 3, none⟩ (.slice p4 n4 c4) = W5 := ⟨_, rfl⟩
            have e25 : w4.setCell ⟨w.heap.size + 2, 3, none⟩ (.slice p4 n4 c4) = W5 := hW5
            rw [e25] at hq5 hc5
            rw [hW5]
            have hs4 := HB4.out.size
            have hj5 := (hc5.block (w.heap.size + 1) (by have := HLT.out; omega) (by omega)).trans hj4
            have HOA := hide ((HO1.out.below HB4.out).chg hc5 fun k e => by have := HSX.out; omega)
            have HOB := hide (HO4.out.chg hc5 fun k e => by have := HLT.out; omega)
            have HB5 := hide (Chg.to_below (HB2.out.trans (HB4.out.mono HB2.out.size)) hc5 fun k e => by omega)
            clear hW5 e25 hr4' hj4 hs4 hc5 g3 g5 y3 yf3
            have r0 : W5.cell? ⟨w.heap.size + 2, 0, none⟩ = some (.int .i64 six) := by rw [cell_of_row W5 _ 0 _ _ (0, 0) hq5]; rfl
            have r1 : W5.cell? ⟨w.heap.size + 2, 1, none⟩ = some (.int .i64 stm) := by rw [cell_of_row W5 _ 1 _ _ (0, 0) hq5]; rfl
            have r2 : W5.cell? ⟨w.heap.size + 2, 2, none⟩ = some (.slice pv1 nv1 cv1) := by rw [cell_of_row W5 _ 2 _ _ (0, 0) hq5]; rfl
            have r3 : W5.cell? ⟨w.heap.size + 2, 3, none⟩ = some (.slice p4 n4 c4) := by rw [cell_of_row W5 _ 3 _ _ (0, 0) hq5]; rfl
            have t0 : W5.cell? ⟨w.heap.size + 1, 0, none⟩ = some (.int .i64 0) := by rw [cell_of_row W5 _ 0 _ _ (0, 0) hj5]; rfl
            have t1 : W5.cell? ⟨w.heap.size + 1, 1, none⟩ = some (.int .i64 0) := by rw [cell_of_row W5 _ 1 _ _ (0, 0) hj5]; rfl
            have t2 : W5.cell? ⟨w.heap.size + 1, 2, none⟩ = some (.slice none 0 0) := by rw [cell_of_row W5 _ 2 _ _ (0, 0) hj5]; rfl
            have t3 : W5.cell? ⟨w.heap.size + 1, 3, none⟩ = some (.slice none 0 0) := by rw [cell_of_row W5 _ 3 _ _ (0, 0) hj5]; rfl
            have s0 := frozen_of_row W5 (w.heap.size + 1) 0 _ _ hj5
            have s1 := frozen_of_row W5 (w.heap.size + 1) 1 _ _ hj5
            have s2 := frozen_of_row W5 (w.heap.size + 1) 2 _ _ hj5
            have s3 := frozen_of_row W5 (w.heap.size + 1) 3 _ _ hj5
            obtain ⟨hq6, hc6⟩ := set4 (.int .i64 six) (.int .i64 stm) (.slice pv1 nv1 cv1) (.slice p4 n4 c4) hj5
            obtain ⟨F, hF⟩ : ∃ F, ((((W5.setCell ⟨w.heap.size + 1, 0, none⟩ (.int .i64 six)).setCell ⟨w.heap.size + 1, 1, none⟩ (.int .i64 stm)).setCell ⟨w.heap.size + 1, 2, none⟩ (.slice pv1 nv1 cv1)).setCell ⟨w.heap.size + 1, 3, none⟩ (.slice p4 n4 c4)) = F := ⟨_, rfl⟩
            rw [hF] at hq6 hc6
            have v0 : F.cell? ⟨w.heap.size + 1, 0, none⟩ = some (.int .i64 six) := by rw [cell_of_row F _ 0 _ _ (0, 0) hq6]; rfl
            have v1 : F.cell? ⟨w.heap.size + 1, 1, none⟩ = some (.int .i64 stm) := by rw [cell_of_row F _ 1 _ _ (0, 0) hq6]; rfl
            have v2 : F.cell? ⟨w.heap.size + 1, 2, none⟩ = some (.slice pv1 nv1 cv1) := by rw [cell_of_row F _ 2 _ _ (0, 0) hq6]; rfl
            have v3 : F.cell? ⟨w.heap.size + 1, 3, none⟩ = some (.slice p4 n4 c4) := by rw [cell_of_row F _ 3 _ _ (0, 0) hq6]; rfl
            have HOF := hide (show SnO w.heap.size F (.agg #[.int .i64 six, .int .i64 stm, .slice pv1 nv1 cv1, .slice p4 n4 c4]) ⟨six, stm, sv, sd ++ List.replicate m 0⟩ from ⟨_, _, rfl, (HOA.out.chg hc6 fun k e => by have := HSX.out; omega).mono (by have := HSX.out; omega), (HOB.out.chg hc6 fun k e => by have := HLT.out; omega).mono (by have := HLT.out; omega), HIN.out.h3, HIN.out.h4⟩)
            have HBF := hide (Chg.to_below HB5.out hc6 fun k e => by omega)
            clear hq5 hj5 hq6 hc6
            go_wp2_with fail
            refine bodyPost_ret (v := .agg #[.int .i64 six, .int .i64 stm, .slice pv1 nv1 cv1, .slice p4 n4 c4]) (by simp [results, Tryz.results21, go_sem, v0, v1, v2, v3]) rfl ?_
            exact ⟨_, rfl, HOF.out, HBF.out⟩
          exact AllReadyH.nil
        exact AllReadyH.nil
      exact AllReadyH.nil
    exact AllReadyH.nil
  exact AllReadyH.nil
end Go.Proofs.YtgbdjcekpdfpjaaGreatDoor
