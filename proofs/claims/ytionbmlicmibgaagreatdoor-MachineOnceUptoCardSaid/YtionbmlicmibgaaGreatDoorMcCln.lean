import Derived.Test.YtionbmlicmibgaaGreatDoorMcImg
import Derived.Test.YtionbmlicmibgaaGreatDoorX2c
namespace Go.Proofs.YtionbmlicmibgaaGreatDoor
set_option linter.unusedVariables false
set_option linter.unusedSimpArgs false
open Go.RowKit
def NewMc (w : World) (m : Mp) (e : Ending) (w' : World) : Prop := ∃ gi P, e = .returned (.pointer (some ⟨gi, 0, none⟩)) ∧ P.gi = gi ∧ McIs w' P m ∧ (∀ k, McS P k → w.heap.size ≤ k) ∧ Below w.heap.size w w'
set_option maxRecDepth 200000 in
set_option maxHeartbeats 8000000 in
theorem mclone_any {w : World} {P : Pm} {m : Mp} (h : McIs w P m) : Calls Tryz.prog 94 #[.pointer (some ⟨P.gi, 0, none⟩)] w (NewMc w m) := by
 obtain ⟨pv, nv, cv, hvv⟩ : ∃ p n c, P.vv = .slice p n c := by
  obtain ⟨_, ⟨e1, _⟩ | ⟨g, cap, cur, e1, _⟩⟩ := h.vo.1
  ·exact ⟨_, _, _, e1⟩
  ·exact ⟨_, _, _, e1⟩
 have HM := hide h
 have HVV := hide hvv
 have HKP : Hid (∀ U, Below w.heap.size w U → U.cell? ⟨P.gi, 0, none⟩ = some (.pointer (some ⟨P.gs, 0, none⟩)) ∧ U.cell? ⟨P.gi, 1, none⟩ = some (.pointer (some ⟨P.gt, 0, none⟩)) ∧ U.cell? ⟨P.gi, 2, none⟩ = some (.int .i64 m.ix) ∧ U.cell? ⟨P.gi, 3, none⟩ = some (.int .i64 m.tm) ∧ U.cell? ⟨P.gi, 4, none⟩ = some (.slice pv nv cv)) := hide fun U hU => ⟨(h.below hU).row.c0, (h.below hU).row.c1, (h.below hU).row.c2, (h.below hU).row.c3, by rw [← hvv]; exact (h.below hU).row.c4⟩
 clear h hvv
 go_enter Tryz.func94, Tryz.ntmps94
 go_upto_region 1 with fail
 refine wp_region_held_drew (S := (fun U => U.cell? ⟨P.gi, 0, none⟩ = some (.pointer (some ⟨P.gs, 0, none⟩)) ∧ U.cell? ⟨P.gi, 1, none⟩ = some (.pointer (some ⟨P.gt, 0, none⟩)) ∧ U.cell? ⟨P.gi, 2, none⟩ = some (.int .i64 m.ix) ∧ U.cell? ⟨P.gi, 3, none⟩ = some (.int .i64 m.tm) ∧ U.cell? ⟨P.gi, 4, none⟩ = some (.slice pv nv cv))) (by kernel_rfl) ?_ (fun hHeld => ?_)
 ·(try dsimp only)
  exact HKP.out _ (bdrew w 1)
 refine wpAnyH_take (i := 0) (oi := { dst := some 3, op := Op.move (Operand.tmp 0), type := 97, pos := "inside.go:122", after := #[], guard := none }) (v := ?_) rfl (by kernel_rfl) (by kernel_rfl) (by kernel_rfl) (fun _ _ _ h => h) (Or.inl ⟨by rfl, ?_⟩) (by assumption) ?_
 rotate_left
 ·intro w hSw
  (try dsimp only at hSw)
  go_simp
  try with_reducible rfl
 try simp only [Act.put, List.setIfInBounds_toArray, List.set_cons_zero, List.set_cons_succ]
 refine wpAnyH_take (i := 1) (oi := { dst := some 4, op := Op.nilCheck (Operand.tmp 3), type := 0, pos := "inside.go:122", after := _, guard := none }) (v := ?_) rfl (by kernel_rfl) (by kernel_rfl) (by kernel_rfl) (fun _ _ _ h => h) (Or.inl ⟨by rfl, ?_⟩) (by assumption) ?_
 rotate_left
 ·intro w hSw
  (try dsimp only at hSw)
  go_simp
  try with_reducible rfl
 try simp only [Act.put, List.setIfInBounds_toArray, List.set_cons_zero, List.set_cons_succ]
 refine wpAnyH_take (i := 2) (oi := { dst := some 5, op := Op.fieldAddr 131 (Operand.tmp 4) 0, type := 0, pos := "inside.go:122", after := _, guard := none }) (v := ?_) rfl (by kernel_rfl) (by kernel_rfl) (by kernel_rfl) (fun _ _ _ h => h) (Or.inl ⟨by rfl, ?_⟩) (by assumption) ?_
 rotate_left
 ·intro w hSw
  (try dsimp only at hSw)
  go_simp
  try with_reducible rfl
 try simp only [Act.put, List.setIfInBounds_toArray, List.set_cons_zero, List.set_cons_succ]
 refine wpAnyH_take (i := 3) (oi := { dst := some 6, op := Op.load 126 (Operand.tmp 5), type := 126, pos := "inside.go:122", after := _, guard := none }) (v := ?_) rfl (by kernel_rfl) (by kernel_rfl) (by kernel_rfl) (fun _ _ _ h => h) (Or.inl ⟨by rfl, ?_⟩) (by assumption) ?_
 rotate_left
 ·intro w hSw
  (try dsimp only at hSw)
  go_simp
  try with_reducible rfl
 try simp only [Act.put, List.setIfInBounds_toArray, List.set_cons_zero, List.set_cons_succ]
 refine wpAnyH_take (i := 5) (oi := { dst := some 8, op := Op.move (Operand.tmp 0), type := 97, pos := "inside.go:122", after := #[], guard := none }) (v := ?_) rfl (by kernel_rfl) (by kernel_rfl) (by kernel_rfl) (fun _ _ _ h => h) (Or.inl ⟨by rfl, ?_⟩) (by assumption) ?_
 rotate_left
 ·intro w hSw
  (try dsimp only at hSw)
  go_simp
  try with_reducible rfl
 try simp only [Act.put, List.setIfInBounds_toArray, List.set_cons_zero, List.set_cons_succ]
 refine wpAnyH_take (i := 6) (oi := { dst := some 9, op := Op.nilCheck (Operand.tmp 8), type := 0, pos := "inside.go:122", after := _, guard := none }) (v := ?_) rfl (by kernel_rfl) (by kernel_rfl) (by kernel_rfl) (fun _ _ _ h => h) (Or.inl ⟨by rfl, ?_⟩) (by assumption) ?_
 rotate_left
 ·intro w hSw
  (try dsimp only at hSw)
  go_simp
  try with_reducible rfl
 try simp only [Act.put, List.setIfInBounds_toArray, List.set_cons_zero, List.set_cons_succ]
 refine wpAnyH_take (i := 7) (oi := { dst := some 10, op := Op.fieldAddr 131 (Operand.tmp 9) 1, type := 0, pos := "inside.go:122", after := _, guard := none }) (v := ?_) rfl (by kernel_rfl) (by kernel_rfl) (by kernel_rfl) (fun _ _ _ h => h) (Or.inl ⟨by rfl, ?_⟩) (by assumption) ?_
 rotate_left
 ·intro w hSw
  (try dsimp only at hSw)
  go_simp
  try with_reducible rfl
 try simp only [Act.put, List.setIfInBounds_toArray, List.set_cons_zero, List.set_cons_succ]
 refine wpAnyH_take (i := 8) (oi := { dst := some 11, op := Op.load 128 (Operand.tmp 10), type := 128, pos := "inside.go:122", after := _, guard := none }) (v := ?_) rfl (by kernel_rfl) (by kernel_rfl) (by kernel_rfl) (fun _ _ _ h => h) (Or.inl ⟨by rfl, ?_⟩) (by assumption) ?_
 rotate_left
 ·intro w hSw
  (try dsimp only at hSw)
  go_simp
  try with_reducible rfl
 try simp only [Act.put, List.setIfInBounds_toArray, List.set_cons_zero, List.set_cons_succ]
 refine wpAnyH_take (i := 10) (oi := { dst := some 13, op := Op.move (Operand.tmp 0), type := 97, pos := "inside.go:122", after := #[], guard := none }) (v := ?_) rfl (by kernel_rfl) (by kernel_rfl) (by kernel_rfl) (fun _ _ _ h => h) (Or.inl ⟨by rfl, ?_⟩) (by assumption) ?_
 rotate_left
 ·intro w hSw
  (try dsimp only at hSw)
  go_simp
  try with_reducible rfl
 try simp only [Act.put, List.setIfInBounds_toArray, List.set_cons_zero, List.set_cons_succ]
 refine wpAnyH_take (i := 11) (oi := { dst := some 14, op := Op.nilCheck (Operand.tmp 13), type := 0, pos := "inside.go:122", after := _, guard := none }) (v := ?_) rfl (by kernel_rfl) (by kernel_rfl) (by kernel_rfl) (fun _ _ _ h => h) (Or.inl ⟨by rfl, ?_⟩) (by assumption) ?_
 rotate_left
 ·intro w hSw
  (try dsimp only at hSw)
  go_simp
  try with_reducible rfl
 try simp only [Act.put, List.setIfInBounds_toArray, List.set_cons_zero, List.set_cons_succ]
 refine wpAnyH_take (i := 12) (oi := { dst := some 15, op := Op.fieldAddr 131 (Operand.tmp 14) 2, type := 0, pos := "inside.go:122", after := _, guard := none }) (v := ?_) rfl (by kernel_rfl) (by kernel_rfl) (by kernel_rfl) (fun _ _ _ h => h) (Or.inl ⟨by rfl, ?_⟩) (by assumption) ?_
 rotate_left
 ·intro w hSw
  (try dsimp only at hSw)
  go_simp
  try with_reducible rfl
 try simp only [Act.put, List.setIfInBounds_toArray, List.set_cons_zero, List.set_cons_succ]
 refine wpAnyH_take (i := 13) (oi := { dst := some 16, op := Op.load 3 (Operand.tmp 15), type := 3, pos := "inside.go:122", after := _, guard := none }) (v := ?_) rfl (by kernel_rfl) (by kernel_rfl) (by kernel_rfl) (fun _ _ _ h => h) (Or.inl ⟨by rfl, ?_⟩) (by assumption) ?_
 rotate_left
 ·intro w hSw
  (try dsimp only at hSw)
  go_simp
  try with_reducible rfl
 try simp only [Act.put, List.setIfInBounds_toArray, List.set_cons_zero, List.set_cons_succ]
 refine wpAnyH_take (i := 14) (oi := { dst := some 17, op := Op.move (Operand.tmp 0), type := 97, pos := "inside.go:122", after := #[], guard := none }) (v := ?_) rfl (by kernel_rfl) (by kernel_rfl) (by kernel_rfl) (fun _ _ _ h => h) (Or.inl ⟨by rfl, ?_⟩) (by assumption) ?_
 rotate_left
 ·intro w hSw
  (try dsimp only at hSw)
  go_simp
  try with_reducible rfl
 try simp only [Act.put, List.setIfInBounds_toArray, List.set_cons_zero, List.set_cons_succ]
 refine wpAnyH_take (i := 15) (oi := { dst := some 18, op := Op.nilCheck (Operand.tmp 17), type := 0, pos := "inside.go:122", after := _, guard := none }) (v := ?_) rfl (by kernel_rfl) (by kernel_rfl) (by kernel_rfl) (fun _ _ _ h => h) (Or.inl ⟨by rfl, ?_⟩) (by assumption) ?_
 rotate_left
 ·intro w hSw
  (try dsimp only at hSw)
  go_simp
  try with_reducible rfl
 try simp only [Act.put, List.setIfInBounds_toArray, List.set_cons_zero, List.set_cons_succ]
 refine wpAnyH_take (i := 16) (oi := { dst := some 19, op := Op.fieldAddr 131 (Operand.tmp 18) 3, type := 0, pos := "inside.go:122", after := _, guard := none }) (v := ?_) rfl (by kernel_rfl) (by kernel_rfl) (by kernel_rfl) (fun _ _ _ h => h) (Or.inl ⟨by rfl, ?_⟩) (by assumption) ?_
 rotate_left
 ·intro w hSw
  (try dsimp only at hSw)
  go_simp
  try with_reducible rfl
 try simp only [Act.put, List.setIfInBounds_toArray, List.set_cons_zero, List.set_cons_succ]
 refine wpAnyH_take (i := 17) (oi := { dst := some 20, op := Op.load 3 (Operand.tmp 19), type := 3, pos := "inside.go:122", after := _, guard := none }) (v := ?_) rfl (by kernel_rfl) (by kernel_rfl) (by kernel_rfl) (fun _ _ _ h => h) (Or.inl ⟨by rfl, ?_⟩) (by assumption) ?_
 rotate_left
 ·intro w hSw
  (try dsimp only at hSw)
  go_simp
  try with_reducible rfl
 try simp only [Act.put, List.setIfInBounds_toArray, List.set_cons_zero, List.set_cons_succ]
 refine wpAnyH_take (i := 18) (oi := { dst := some 21, op := Op.move (Operand.tmp 0), type := 97, pos := "inside.go:122", after := #[], guard := none }) (v := ?_) rfl (by kernel_rfl) (by kernel_rfl) (by kernel_rfl) (fun _ _ _ h => h) (Or.inl ⟨by rfl, ?_⟩) (by assumption) ?_
 rotate_left
 ·intro w hSw
  (try dsimp only at hSw)
  go_simp
  try with_reducible rfl
 try simp only [Act.put, List.setIfInBounds_toArray, List.set_cons_zero, List.set_cons_succ]
 refine wpAnyH_take (i := 19) (oi := { dst := some 22, op := Op.nilCheck (Operand.tmp 21), type := 0, pos := "inside.go:122", after := _, guard := none }) (v := ?_) rfl (by kernel_rfl) (by kernel_rfl) (by kernel_rfl) (fun _ _ _ h => h) (Or.inl ⟨by rfl, ?_⟩) (by assumption) ?_
 rotate_left
 ·intro w hSw
  (try dsimp only at hSw)
  go_simp
  try with_reducible rfl
 try simp only [Act.put, List.setIfInBounds_toArray, List.set_cons_zero, List.set_cons_succ]
 refine wpAnyH_take (i := 20) (oi := { dst := some 23, op := Op.fieldAddr 131 (Operand.tmp 22) 4, type := 0, pos := "inside.go:122", after := _, guard := none }) (v := ?_) rfl (by kernel_rfl) (by kernel_rfl) (by kernel_rfl) (fun _ _ _ h => h) (Or.inl ⟨by rfl, ?_⟩) (by assumption) ?_
 rotate_left
 ·intro w hSw
  (try dsimp only at hSw)
  go_simp
  try with_reducible rfl
 try simp only [Act.put, List.setIfInBounds_toArray, List.set_cons_zero, List.set_cons_succ]
 refine wpAnyH_take (i := 21) (oi := { dst := some 24, op := Op.load 23 (Operand.tmp 23), type := 23, pos := "inside.go:122", after := _, guard := none }) (v := ?_) rfl (by kernel_rfl) (by kernel_rfl) (by kernel_rfl) (fun _ _ _ h => h) (Or.inl ⟨by rfl, ?_⟩) (by assumption) ?_
 rotate_left
 ·intro w hSw
  (try dsimp only at hSw)
  go_simp
  try with_reducible rfl
 try simp only [Act.put, List.setIfInBounds_toArray, List.set_cons_zero, List.set_cons_succ]
 refine wpAnyH_ready (rs := [4]) (by kernel_rfl) (by simp) ?_
 refine AllReadyH.cons (o := { dst := some 7, op := Op.call { callee := Callee.value (Operand.func 130), args := #[Operand.tmp 6], argTypes := #[126] }, type := 126, pos := "inside.go:122", after := _, guard := none }) rfl (fun K hK => ?_) ?_
 ·go_simp
  go_at_call 130
  refine (stclone (HM.out.below (bdrew w 1)).so).mono ?_
  rintro e2 W2 ⟨gs, bm, R, rfl, hso, hpl, hns, hb2⟩
  rw [HM.out.pl] at hpl
  have H2 := hide (And.intro hso (And.intro hpl (And.intro hns hb2)))
  have HB2 : Hid (Below w.heap.size w W2) := hide ((bdrew w 1).trans hb2)
  clear hso hpl hns hb2
  first
   | refine hK.out _ _ ?_ (fun hHeld => ?_)
   | (go_wp2_with fail; refine hK.out _ _ ?_ (fun hHeld => ?_))
  ·(try dsimp only)
   exact HKP.out _ HB2.out
  clear hK K
  try simp only [Act.put, List.setIfInBounds_toArray, List.set_cons_zero, List.set_cons_succ]
  refine wpAnyH_ready (rs := [9]) (by kernel_rfl) (by simp) ?_
  refine AllReadyH.cons (o := { dst := some 12, op := Op.call { callee := Callee.value (Operand.func 131), args := #[Operand.tmp 11], argTypes := #[128] }, type := 128, pos := "inside.go:122", after := _, guard := none }) rfl (fun K hK => ?_) ?_
  ·go_simp
   go_at_call 131
   refine (tclone_any (HM.out.below HB2.out).tb).mono ?_
   rintro e3 W3 ⟨gt, bt, rfl, htb, hgl, hbl, hb3⟩
   have H3 := hide (And.intro htb (And.intro hgl (And.intro hbl hb3)))
   have HB3 : Hid (Below w.heap.size w W3) := hide (HB2.out.trans (hb3.mono HB2.out.size))
   clear htb hgl hbl hb3
   first
    | refine hK.out _ _ ?_ (fun hHeld => ?_)
    | (go_wp2_with fail; refine hK.out _ _ ?_ (fun hHeld => ?_))
   ·(try dsimp only)
    exact HKP.out _ HB3.out
   clear hK K
   try simp only [Act.put, List.setIfInBounds_toArray, List.set_cons_zero, List.set_cons_succ]
   refine wpAnyH_ready (rs := [22]) (by kernel_rfl) (by simp) ?_
   refine AllReadyH.cons (o := { dst := some 25, op := Op.call { callee := Callee.value (Operand.func 17), args := #[Operand.tmp 24], argTypes := #[23] }, type := 23, pos := "inside.go:122", after := _, guard := none }) rfl (fun K hK => ?_) ?_
   ·go_simp
    go_at_call 17
    have HVN := hide (And.intro (by have h1 := (HM.out.below HB3.out).vo.ns; rwa [HVV.out] at h1 : Ns W3 (.slice pv nv cv) m.vo) (okR_len HM.out.ok.vo).1)
    refine (cloneN_any HVN.out.1 (by have := HVN.out.2; omega)).mono ?_
    rintro e4 W4 ⟨vv4, rfl, hov, hb4⟩
    obtain ⟨p4, n4, c4, rfl⟩ : ∃ p n c, vv4 = .slice p n c := by
     obtain ⟨_, ⟨e1, _⟩ | ⟨g, cap, cur, e1, _⟩⟩ := hov.1
     ·exact ⟨_, _, _, e1⟩
     ·exact ⟨_, _, _, e1⟩
    have H4 := hide (And.intro hov hb4)
    have HB4 : Hid (Below w.heap.size w W4) := hide (HB3.out.trans (hb4.mono HB3.out.size))
    clear hov hb4
    first
     | refine hK.out _ _ ?_ (fun hHeld => ?_)
     | (go_wp2_with fail; refine hK.out _ _ ?_ (fun hHeld => ?_))
    ·(try dsimp only)
     exact HKP.out _ HB4.out
    clear hK K
    try simp only [Act.put, List.setIfInBounds_toArray, List.set_cons_zero, List.set_cons_succ]
    refine wpAnyH_take (i := 23) (oi := { dst := some 26, op := Op.build 131 #[(0, Operand.tmp 7), (1, Operand.tmp 12), (2, Operand.tmp 16), (3, Operand.tmp 20), (4, Operand.tmp 25)], type := 131, pos := "inside.go:122", after := _, guard := none }) (v := ?_) rfl (by kernel_rfl) (by kernel_rfl) (by kernel_rfl) (fun _ _ _ h => h) (Or.inl ⟨by rfl, ?_⟩) (by assumption) ?_
    rotate_left
    ·intro w hSw
     (try dsimp only at hSw)
     go_simp
     try with_reducible rfl
    try simp only [Act.put, List.setIfInBounds_toArray, List.set_cons_zero, List.set_cons_succ]
    refine wpAnyH_ready (rs := [24]) (by kernel_rfl) (by simp) ?_
    refine AllReadyH.cons (o := { dst := some 27, op := Op.box 131 (Operand.tmp 26), type := 97, pos := "inside.go:122", after := _, guard := none }) rfl (fun K hK => ?_) ?_
    ·go_simp
     first
      | refine hK.out _ _ ?_ (fun hHeld => ?_)
      | (go_wp2_with fail; refine hK.out _ _ ?_ (fun hHeld => ?_))
     ·(try dsimp only)
      exact HKP.out _ (HB4.out.alloc HB4.out.size _)
     clear hK K
     try simp only [Act.put, List.setIfInBounds_toArray, List.set_cons_zero, List.set_cons_succ]
     refine wpAnyH_take (i := 25) (oi := { dst := some 2, op := Op.assign (Operand.tmp 27), type := 97, pos := "inside.go:122", after := _, guard := none }) (v := ?_) rfl (by kernel_rfl) (by kernel_rfl) (by kernel_rfl) (fun _ _ _ h => h) (Or.inl ⟨by rfl, ?_⟩) (by assumption) ?_
     rotate_left
     ·intro w hSw
      (try dsimp only at hSw)
      go_simp
      try with_reducible rfl
     try simp only [Act.put, List.setIfInBounds_toArray, List.set_cons_zero, List.set_cons_succ]
     refine wpAnyH_done (by kernel_rfl) ?_ _
     clear hHeld
     go_wp2_with fail
     go_ret
     obtain ⟨hso, hpl, hns, hb2⟩ := H2.out
     obtain ⟨htb, hgl, hbl, hb3⟩ := H3.out
     obtain ⟨hov, hb4⟩ := H4.out
     have hA := (Below.refl W4.heap.size W4).alloc (Nat.le_refl _) (.cells #[.pointer (some ⟨gs, 0, none⟩), .pointer (some ⟨gt, 0, none⟩), .int .i64 m.ix, .int .i64 m.tm, .slice p4 n4 c4] 131)
     have hr1 := heap_alloc_new W4 (.cells #[.pointer (some ⟨gs, 0, none⟩), .pointer (some ⟨gt, 0, none⟩), .int .i64 m.ix, .int .i64 m.tm, .slice p4 n4 c4] 131)
     generalize (W4.alloc (.cells #[.pointer (some ⟨gs, 0, none⟩), .pointer (some ⟨gt, 0, none⟩), .int .i64 m.ix, .int .i64 m.tm, .slice p4 n4 c4] 131)) = W at hA hr1 ⊢
     have s1 : w.heap.size ≤ W2.heap.size := hb2.size
     have s3 := hb3.size
     have s4 := hb4.size
     have g1 := htb.gl
     have g2 := htb.bl
     have p0 := HM.out.er.pos
     have hlo : ∀ k, McS ⟨W4.heap.size, gs, bm, gt, bt, R, .slice p4 n4 c4⟩ k → w.heap.size ≤ k := by
      rintro k (e | e | e | e | e)
      ·have e : k = W4.heap.size := e; omega
      ·have e : k = gt := e; omega
      ·have e : k = bt := e; omega
      ·exact hns k e
      ·have := (hov.lt k e).1; omega
     have HBW : Below w.heap.size w W := (((bdrew w 1).trans hb2).trans (hb3.mono s1)).trans ((hb4.mono (show w.heap.size ≤ W3.heap.size by omega)).trans (hA.mono (show w.heap.size ≤ W4.heap.size by omega)))
     refine ⟨W4.heap.size, ⟨W4.heap.size, gs, bm, gt, bt, R, .slice p4 n4 c4⟩, rfl, rfl, ⟨hr1, hso.below ((hb3.trans (hb4.mono s3)).trans (hA.mono (by omega))), hpl, htb.below (hb4.trans (hA.mono s4)), (hov.below hA).mono (Nat.zero_le _), HM.out.ok, HM.out.er.below HBW, fun k hk => ?_, ⟨?_, ?_⟩, fun k hk => ?_, fun k hk => ?_⟩, hlo, HBW⟩
     ·have := hso.lt k hk
      exact ⟨by show k ≠ W4.heap.size; omega, by show k ≠ gt; omega, by show k ≠ bt; omega⟩
     ·show W4.heap.size ≠ gt; omega
     ·show W4.heap.size ≠ bt; omega
     ·have h5 := hov.lt k hk
      exact ⟨by show k ≠ W4.heap.size; omega, by show k ≠ gt; omega, by show k ≠ bt; omega, fun e => by have := hso.lt k e; omega⟩
     ·have := hlo k hk; omega
    exact AllReadyH.nil
   exact AllReadyH.nil
  exact AllReadyH.nil
 exact AllReadyH.nil
def NewMm (w : World) (m : Mp) (e : Ending) (w' : World) : Prop := ∃ gm P, e = .returned (.pointer (some ⟨gm, 0, none⟩)) ∧ MkIs w' gm P m ∧ (∀ k, McS P k → w.heap.size ≤ k) ∧ w.heap.size ≤ gm ∧ Below w.heap.size w w'
theorem NewMk_box {w w1 : World} {gi : Nat} {P : Pm} {m : Mp} (hg : P.gi = gi) (h : McIs w1 P m) (hn : ∀ k, McS P k → w.heap.size ≤ k) (hb : Below w.heap.size w w1) : MkIs (w1.alloc (.cells #[.pointer (some ⟨gi, 0, none⟩)] 99)) w1.heap.size P m ∧ Below w.heap.size w (w1.alloc (.cells #[.pointer (some ⟨gi, 0, none⟩)] 99)) := by
 subst hg
 have hA := (Below.refl w1.heap.size w1).alloc (Nat.le_refl _) (.cells #[.pointer (some ⟨P.gi, 0, none⟩)] 99)
 refine ⟨⟨heap_alloc_new w1 _, h.below hA, fun hk => ?_, ?_⟩, hb.alloc hb.size _⟩
 ·have := h.lt _ hk; omega
 ·have := h.er.pos; omega
theorem mmclone_any {w : World} {gm : Nat} {P : Pm} {m : Mp} (h : MkIs w gm P m) : Calls Tryz.prog 43 #[.pointer (some ⟨gm, 0, none⟩)] w (NewMm w m) := by
 have h0 := h.cell
 have HM := hide h
 have HC := hide (mclone_any h.is)
 clear h
 go_enter Tryz.func43, Tryz.ntmps43
 go_wp2_with fail
 refine (mmade_any HM.out).mono ?_
 rintro e w2 ⟨rfl, rfl⟩
 go_wp2_with fail
 refine HC.out.mono ?_
 rintro e w3 ⟨gi, P', rfl, hg, hi, hn, hb⟩
 have HI := hide (NewMk_box hg hi hn hb)
 have HN := hide (And.intro hn hb.size)
 clear hg hi hn hb
 go_wp2_with fail
 go_ret
 exact ⟨_, P', rfl, HI.out.1, HN.out.1, HN.out.2, HI.out.2⟩
end Go.Proofs.YtionbmlicmibgaaGreatDoor
