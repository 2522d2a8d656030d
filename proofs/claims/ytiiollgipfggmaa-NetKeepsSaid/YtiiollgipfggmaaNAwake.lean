/- Awake. -/
import Derived.Test.YtiiollgipfggmaaNSend
import Derived.Test.YtiiollgipfggmaaNDbl
import Derived.Test.YtiiollgipfggmaaNSame
namespace Go.Proofs.Ytiiollgipfggmaa
set_option linter.unusedVariables false
set_option linter.unusedSimpArgs false
open Go.RowKit

theorem ok_vote1 : okM (voteM 1) = true := by decide
theorem ok_vote2 : okM (voteM 2) = true := by decide
theorem aw_send : sendB ⟨0, []⟩ [voteM 1, voteM 2] = ⟨2, [(1, voteM 1), (2, voteM 2)]⟩ := by
  simp [sendB, send1, ok_vote1, ok_vote2, fullB]
theorem aw_dblE : dblE ⟨2, [(1, voteM 1), (2, voteM 2)]⟩ 1 = 0 := by simp [dblE, findI, List.findIdx?_cons, fullB]
theorem aw_dbl : dblI ⟨2, [(1, voteM 1), (2, voteM 2)]⟩ 1 = ⟨3, [(1, voteM 1), (2, voteM 2), (3, voteM 1)]⟩ := by simp [dblI, findI, List.findIdx?_cons, fullB]
theorem aw_take : peekI ⟨3, [(1, voteM 1), (2, voteM 2), (3, voteM 1)]⟩ 1 = (voteM 1, 0) := by simp [peekI, findI, List.findIdx?_cons]
theorem aw_hit : hitE ⟨3, [(1, voteM 1), (2, voteM 2), (3, voteM 1)]⟩ 1 = 0 := by simp [hitE, findI, List.findIdx?_cons]
theorem aw_lose : loseI ⟨3, [(1, voteM 1), (2, voteM 2), (3, voteM 1)]⟩ 1 = ⟨3, [(2, voteM 2), (3, voteM 1)]⟩ := by simp [loseI, findI, List.findIdx?_cons]
theorem aw_peek : peekI ⟨3, [(2, voteM 2), (3, voteM 1)]⟩ 1 = (ms0, 130) := by simp [peekI, findI, List.findIdx?_cons]
theorem aw_hit2 : hitE ⟨3, [(2, voteM 2), (3, voteM 1)]⟩ 2 = 0 := by simp [hitE, findI, List.findIdx?_cons]
theorem aw_lose2 : loseI ⟨3, [(2, voteM 2), (3, voteM 1)]⟩ 2 = ⟨3, [(3, voteM 1)]⟩ := by simp [loseI, findI, List.findIdx?_cons]
theorem fits_lit {n : Int} (h : 0 ≤ n ∧ n ≤ 100) : fits n := by unfold fits; omega
/-- Two votes in a row of their own. -/
theorem mss_votes {W0 W : World} {b : Nat} (h : W0.heap[b]? = some (.cells #[.int .i64 1, .int .i64 6, .int .i64 1, .int .i64 1, .int .i64 0, .int .i64 0, .int .i64 0, .int .i64 0, .bool false, .bool false, .slice none 0 0, .slice none 0 0, .slice none 0 0, .int .i64 1, .int .i64 6, .int .i64 2, .int .i64 1, .int .i64 0, .int .i64 0, .int .i64 0, .int .i64 0, .bool false, .bool false, .slice none 0 0, .slice none 0 0, .slice none 0 0] 26 (0, 0))) {S : Nat → Prop} (hc : Chg W0 W S) (hS : ¬ S b) : Mss W (.slice (some ⟨b, 0, none⟩) 2 2) [voteM 1, voteM 2] := by
  have hr := (hc.block b (Array.getElem?_eq_some_iff.1 h).1 hS).trans h
  refine ⟨_, 2, rfl, Nat.le_refl _, by decide, fun k m hk => ?_⟩
  match k, hk with
  | 0, hk =>
    simp at hk
    subst hk
    refine ⟨b, 0, _, _, _, rfl, voteM_v 1 (fits_lit (by omega)) W, fun j x hj => ?_⟩
    have hjl := (List.getElem?_eq_some_iff.1 hj).1
    rw [cell_of_row W b _ _ _ (0, 0) hr]
    rw [← hj]
    have h13 : j < 13 := hjl
    match j, h13 with
    | 0, _ => rfl
    | 1, _ => rfl
    | 2, _ => rfl
    | 3, _ => rfl
    | 4, _ => rfl
    | 5, _ => rfl
    | 6, _ => rfl
    | 7, _ => rfl
    | 8, _ => rfl
    | 9, _ => rfl
    | 10, _ => rfl
    | 11, _ => rfl
    | 12, _ => rfl
  | 1, hk =>
    simp at hk
    subst hk
    refine ⟨b, 0, _, _, _, rfl, voteM_v 2 (fits_lit (by omega)) W, fun j x hj => ?_⟩
    have hjl := (List.getElem?_eq_some_iff.1 hj).1
    rw [cell_of_row W b _ _ _ (0, 0) hr]
    rw [← hj]
    have h13 : j < 13 := hjl
    match j, h13 with
    | 0, _ => rfl
    | 1, _ => rfl
    | 2, _ => rfl
    | 3, _ => rfl
    | 4, _ => rfl
    | 5, _ => rfl
    | 6, _ => rfl
    | 7, _ => rfl
    | 8, _ => rfl
    | 9, _ => rfl
    | 10, _ => rfl
    | 11, _ => rfl
    | 12, _ => rfl
  | k + 2, hk => simp at hk

set_option maxRecDepth 200000 in
set_option maxHeartbeats 4000000 in
theorem awake_any (w : World) : Calls Try.prog 11 #[] w fun e w' => e = .returned (.bool true) ∧ Below w.heap.size w w' := by
  go_enter Try.func11, Try.ntmps11
  go_wp2_with fail
  refine (new_bag w).mono ?_
  rintro e w1 ⟨g, rfl, hg1, hb1⟩
  have HG1 := hide hg1
  have HB1 := hide hb1
  have hgw := hg1.hB
  have hgl := hg1.gl
  clear hg1 hb1
  go_wp2_with fail
  refine (vote_any 1 w1).mono ?_
  rintro e w2 ⟨rfl, hb2⟩
  have HB2 := hide hb2
  clear hb2
  go_wp2_with fail
  refine (vote_any 2 w2).mono ?_
  rintro e w3 ⟨rfl, hb3⟩
  have HB3 := hide (HB2.out.trans (hb3.mono HB2.out.size))
  unfold msA voteM
  dsimp only
  have hr4 := heap_alloc_new w3 (.cells #[.int .i64 1, .int .i64 6, .int .i64 1, .int .i64 1, .int .i64 0, .int .i64 0, .int .i64 0, .int .i64 0, .bool false, .bool false, .slice none 0 0, .slice none 0 0, .slice none 0 0, .int .i64 1, .int .i64 6, .int .i64 2, .int .i64 1, .int .i64 0, .int .i64 0, .int .i64 0, .int .i64 0, .bool false, .bool false, .slice none 0 0, .slice none 0 0, .slice none 0 0] 26)
  have hb4 := (Below.refl w3.heap.size w3).alloc (Nat.le_refl _) (.cells #[.int .i64 1, .int .i64 6, .int .i64 1, .int .i64 1, .int .i64 0, .int .i64 0, .int .i64 0, .int .i64 0, .bool false, .bool false, .slice none 0 0, .slice none 0 0, .slice none 0 0, .int .i64 1, .int .i64 6, .int .i64 2, .int .i64 1, .int .i64 0, .int .i64 0, .int .i64 0, .int .i64 0, .bool false, .bool false, .slice none 0 0, .slice none 0 0, .slice none 0 0] 26)
  obtain ⟨W4, hW4⟩ : ∃ W, w3.alloc (.cells #[.int .i64 1, .int .i64 6, .int .i64 1, .int .i64 1, .int .i64 0, .int .i64 0, .int .i64 0, .int .i64 0, .bool false, .bool false, .slice none 0 0, .slice none 0 0, .slice none 0 0, .int .i64 1, .int .i64 6, .int .i64 2, .int .i64 1, .int .i64 0, .int .i64 0, .int .i64 0, .int .i64 0, .bool false, .bool false, .slice none 0 0, .slice none 0 0, .slice none 0 0] 26) = W := ⟨_, rfl⟩
  rw [hW4] at hr4 hb4
  have HB4 : Hid (Below w1.heap.size w1 W4) := hide (HB3.out.trans (hb4.mono HB3.out.size))
  have HG4 := hide (HG1.out.below HB4.out)
  have HSD := hide (send_bag HG4.out (u := .slice (some ⟨w3.heap.size, 0, none⟩) 2 2) (L := [voteM 1, voteM 2]) (fun W hW => mss_votes hr4 hW (by
    rintro (e | e)
    · have := HB3.out.size; omega
    · cases e)) (by simp) (by have := HB4.out.size; have := HB1.out.size; omega))
  rw [aw_send] at HSD
  dsimp only at HSD
  have HBW4 := hide (HB1.out.trans (HB4.out.mono HB1.out.size))
  have HW4 := hide hW4
  clear hb3 hr4 hb4 hW4
  go_wp2_with fail
  rw [HW4.out]
  refine HSD.out.mono ?_
  rintro e w5 ⟨rfl, v5, hg5, hc5, _⟩
  have HG5 := hide hg5
  have HBW5 := hide (Chg.to_below HBW4.out hc5 (fun k hk => (HG4.out.S k hk).1))
  have HDB := hide (double_bag hg5 1 (by dsimp only; omega) HBW5.out.size)
  rw [aw_dblE, aw_dbl] at HDB
  clear hg5 hc5 HSD HW4
  go_wp2_with fail
  refine HDB.out.mono ?_
  rintro e w6 ⟨rfl, v6, hg6, hc6, _⟩
  have HG6 := hide hg6
  have HBW6 := hide (Chg.to_below HBW5.out hc6 (fun k hk => (HG5.out.S k hk).1))
  have HTK := hide (take_bag hg6 1)
  unfold TakePost at HTK
  rw [aw_take, aw_hit, aw_lose] at HTK
  dsimp only at HTK
  clear hg6 hc6 HDB
  go_wp2_with fail
  refine HTK.out.mono ?_
  rintro e w7 ⟨ve, vv, vd, rfl, hm7, v7, hg7, hc7⟩
  obtain ⟨pe, ne, ce, rfl⟩ := hm7.es.ens.sl
  obtain ⟨pv, nv, cv, rfl⟩ := hm7.vs.ns.sl
  obtain ⟨pd, nd, cd, rfl⟩ := hm7.d.by_.sl
  have HG7 := hide hg7
  have HM7 := hide hm7
  have HBW7 := hide (Chg.to_below HBW6.out hc7 (fun k hk => (HG6.out.S k hk).1))
  unfold msA voteM
  dsimp only
  have hr8 := heap_alloc_new w7 (.cells #[.int .i64 1, .int .i64 6, .int .i64 1, .int .i64 1, .int .i64 0, .int .i64 0, .int .i64 0, .int .i64 0, .bool false, .bool false, .slice pe ne ce, .slice pv nv cv, .slice pd nd cd] 26)
  have hb8 := (Below.refl w7.heap.size w7).alloc (Nat.le_refl _) (.cells #[.int .i64 1, .int .i64 6, .int .i64 1, .int .i64 1, .int .i64 0, .int .i64 0, .int .i64 0, .int .i64 0, .bool false, .bool false, .slice pe ne ce, .slice pv nv cv, .slice pd nd cd] 26)
  obtain ⟨W8, hW8⟩ : ∃ W, w7.alloc (.cells #[.int .i64 1, .int .i64 6, .int .i64 1, .int .i64 1, .int .i64 0, .int .i64 0, .int .i64 0, .int .i64 0, .bool false, .bool false, .slice pe ne ce, .slice pv nv cv, .slice pd nd cd] 26) = W := ⟨_, rfl⟩
  rw [hW8] at hr8 hb8
  have HB8 := hide hb8
  have HX8 := hide (Box13.of_row hr8)
  have HPK := hide (peek_bag (hg7.below hb8) 1)
  rw [aw_peek] at HPK
  have HW8 := hide hW8
  clear hg7 hm7 hc7 hr8 hb8 hW8 HTK
  go_wp2_with fail
  rw [HW8.out]
  refine HPK.out.mono ?_
  rintro e w9 ⟨ue, uv, ud, rfl, hm9, hb9⟩
  obtain ⟨pe9, ne9, ce9, rfl⟩ := hm9.es.ens.sl
  obtain ⟨pv9, nv9, cv9, rfl⟩ := hm9.vs.ns.sl
  obtain ⟨pd9, nd9, cd9, rfl⟩ := hm9.d.by_.sl
  unfold msA ms0
  dsimp only
  have hb10 := (Below.refl w9.heap.size w9).alloc (Nat.le_refl _) (.cells #[.int .i64 0, .int .i64 0, .int .i64 0, .int .i64 0, .int .i64 0, .int .i64 0, .int .i64 0, .int .i64 0, .bool false, .bool false, .slice pe9 ne9 ce9, .slice pv9 nv9 cv9, .slice pd9 nd9 cd9] 26)
  obtain ⟨T, hT⟩ : ∃ W, w9.alloc (.cells #[.int .i64 0, .int .i64 0, .int .i64 0, .int .i64 0, .int .i64 0, .int .i64 0, .int .i64 0, .int .i64 0, .bool false, .bool false, .slice pe9 ne9 ce9, .slice pv9 nv9 cv9, .slice pd9 nd9 cd9] 26) = W := ⟨_, rfl⟩
  rw [hT] at hb10
  have hb8T : Below W8.heap.size W8 T := hb9.trans (hb10.mono hb9.size)
  have hb7T : Below w7.heap.size w7 T := HB8.out.trans (hb8T.mono HB8.out.size)
  have HXT := hide (HX8.out.below hb8T)
  have HGT := hide (HG7.out.below hb7T)
  have HMT := hide (HM7.out.below hb7T)
  have HBT := hide (HBW7.out.trans (hb7T.mono HBW7.out.size))
  have HTT := hide (HG7.out.T.below hb7T)
  obtain ⟨b4, hb4⟩ : ∃ b, w7.heap.size = b := ⟨_, rfl⟩
  rw [hb4] at HXT HTT
  have HS4 : Hid (∀ k, BgS g v7 k → k < b4) := hide (fun k hk => by rw [← hb4]; exact (HG7.out.S k hk).2)
  obtain ⟨y0, y1, y2, y3, y4, y5, y6, y7, y8, y9, y10, y11, y12⟩ := HXT.out
  clear hm9 hb9 hb10 hb8T hb7T HPK HW8
  go_wp2_with fail
  refine wp_region_held_drew (S := fun V => V.cell? ⟨b4, 0, none⟩ = some (.int .i64 1) ∧ V.cell? ⟨b4, 1, none⟩ = some (.int .i64 6) ∧ V.cell? ⟨b4, 2, none⟩ = some (.int .i64 1) ∧ V.cell? ⟨b4, 3, none⟩ = some (.int .i64 1) ∧ V.cell? ⟨b4, 4, none⟩ = some (.int .i64 0) ∧ V.cell? ⟨b4, 5, none⟩ = some (.int .i64 0) ∧ V.cell? ⟨b4, 6, none⟩ = some (.int .i64 0) ∧ V.cell? ⟨b4, 7, none⟩ = some (.int .i64 0) ∧ V.cell? ⟨b4, 8, none⟩ = some (.bool false) ∧ V.cell? ⟨b4, 9, none⟩ = some (.bool false) ∧ V.cell? ⟨b4, 10, none⟩ = some (.slice pe ne ce) ∧ V.cell? ⟨b4, 11, none⟩ = some (.slice pv nv cv) ∧ V.cell? ⟨b4, 12, none⟩ = some (.slice pd nd cd)) (by kernel_rfl) ?_ (fun hHeld => ?_)
  · (try dsimp only)
    exact ⟨y0, y1, y2, y3, y4, y5, y6, y7, y8, y9, y10, y11, y12⟩
  refine wpAnyH_take (i := 0) (oi := { dst := some 26, op := Op.move (Operand.tmp 2), type := 3, pos := "law.go:61", after := #[], guard := none }) (v := ?_) rfl (by kernel_rfl) (by kernel_rfl) (by kernel_rfl) (fun _ _ _ h => h) (Or.inl ⟨by rfl, ?_⟩) (by assumption) ?_
  rotate_left
  · intro w hSw
    (try dsimp only at hSw)
    go_simp
    try with_reducible rfl
  try simp only [Act.put, List.setIfInBounds_toArray, List.set_cons_zero, List.set_cons_succ]
  refine wpAnyH_take (i := 1) (oi := { dst := some 27, op := Op.binOp BinOp.eql 3 (Operand.tmp 26) (Operand.const (Value.int IntKind.i64 2)) 3, type := 4, pos := "law.go:61", after := _, guard := none }) (v := ?_) rfl (by kernel_rfl) (by kernel_rfl) (by kernel_rfl) (fun _ _ _ h => h) (Or.inl ⟨by rfl, ?_⟩) (by assumption) ?_
  rotate_left
  · intro w hSw
    (try dsimp only at hSw)
    go_simp
    try with_reducible rfl
  try simp only [Act.put, List.setIfInBounds_toArray, List.set_cons_zero, List.set_cons_succ]
  refine wpAnyH_take (i := 2) (oi := { dst := some 28, op := Op.move (Operand.tmp 27), type := 4, pos := "law.go:61", after := _, guard := none }) (v := ?_) rfl (by kernel_rfl) (by kernel_rfl) (by kernel_rfl) (fun _ _ _ h => h) (Or.inl ⟨by rfl, ?_⟩) (by assumption) ?_
  rotate_left
  · intro w hSw
    (try dsimp only at hSw)
    go_simp
    try with_reducible rfl
  try simp only [Act.put, List.setIfInBounds_toArray, List.set_cons_zero, List.set_cons_succ]
  refine wpAnyH_take (i := 3) (oi := { dst := some 29, op := Op.move (Operand.tmp 3), type := 31, pos := "law.go:61", after := _, guard := some (2, true) }) (v := ?_) rfl (by kernel_rfl) (by kernel_rfl) (by kernel_rfl) (fun _ _ _ h => h) (Or.inl ⟨by rfl, ?_⟩) (by assumption) ?_
  rotate_left
  · intro w hSw
    (try dsimp only at hSw)
    go_simp
    try with_reducible rfl
  try simp only [Act.put, List.setIfInBounds_toArray, List.set_cons_zero, List.set_cons_succ]
  refine wpAnyH_take (i := 4) (oi := { dst := some 30, op := Op.binOp BinOp.eql 31 (Operand.tmp 29) (Operand.const (Value.int IntKind.i64 0)) 31, type := 4, pos := "law.go:61", after := _, guard := some (2, true) }) (v := ?_) rfl (by kernel_rfl) (by kernel_rfl) (by kernel_rfl) (fun _ _ _ h => h) (Or.inl ⟨by rfl, ?_⟩) (by assumption) ?_
  rotate_left
  · intro w hSw
    (try dsimp only at hSw)
    go_simp
    try with_reducible rfl
  try simp only [Act.put, List.setIfInBounds_toArray, List.set_cons_zero, List.set_cons_succ]
  refine wpAnyH_take (i := 5) (oi := { dst := some 31, op := Op.pick (Operand.tmp 28) (Operand.tmp 30) (Operand.const (Value.bool false)), type := 4, pos := "law.go:61", after := _, guard := none }) (v := ?_) rfl (by kernel_rfl) (by kernel_rfl) (by kernel_rfl) (fun _ _ _ h => h) (Or.inl ⟨by rfl, ?_⟩) (by assumption) ?_
  rotate_left
  · intro w hSw
    (try dsimp only at hSw)
    go_simp
    try with_reducible rfl
  try simp only [Act.put, List.setIfInBounds_toArray, List.set_cons_zero, List.set_cons_succ]
  refine wpAnyH_take (i := 6) (oi := { dst := some 32, op := Op.move (Operand.tmp 31), type := 4, pos := "law.go:61", after := _, guard := none }) (v := ?_) rfl (by kernel_rfl) (by kernel_rfl) (by kernel_rfl) (fun _ _ _ h => h) (Or.inl ⟨by rfl, ?_⟩) (by assumption) ?_
  rotate_left
  · intro w hSw
    (try dsimp only at hSw)
    go_simp
    try with_reducible rfl
  try simp only [Act.put, List.setIfInBounds_toArray, List.set_cons_zero, List.set_cons_succ]
  refine wpAnyH_take (i := 7) (oi := { dst := some 33, op := Op.move (Operand.tmp 5), type := 31, pos := "law.go:61", after := _, guard := some (6, true) }) (v := ?_) rfl (by kernel_rfl) (by kernel_rfl) (by kernel_rfl) (fun _ _ _ h => h) (Or.inl ⟨by rfl, ?_⟩) (by assumption) ?_
  rotate_left
  · intro w hSw
    (try dsimp only at hSw)
    go_simp
    try with_reducible rfl
  try simp only [Act.put, List.setIfInBounds_toArray, List.set_cons_zero, List.set_cons_succ]
  refine wpAnyH_take (i := 8) (oi := { dst := some 34, op := Op.binOp BinOp.eql 31 (Operand.tmp 33) (Operand.const (Value.int IntKind.i64 0)) 31, type := 4, pos := "law.go:61", after := _, guard := some (6, true) }) (v := ?_) rfl (by kernel_rfl) (by kernel_rfl) (by kernel_rfl) (fun _ _ _ h => h) (Or.inl ⟨by rfl, ?_⟩) (by assumption) ?_
  rotate_left
  · intro w hSw
    (try dsimp only at hSw)
    go_simp
    try with_reducible rfl
  try simp only [Act.put, List.setIfInBounds_toArray, List.set_cons_zero, List.set_cons_succ]
  refine wpAnyH_take (i := 9) (oi := { dst := some 35, op := Op.pick (Operand.tmp 32) (Operand.tmp 34) (Operand.const (Value.bool false)), type := 4, pos := "law.go:61", after := _, guard := none }) (v := ?_) rfl (by kernel_rfl) (by kernel_rfl) (by kernel_rfl) (fun _ _ _ h => h) (Or.inl ⟨by rfl, ?_⟩) (by assumption) ?_
  rotate_left
  · intro w hSw
    (try dsimp only at hSw)
    go_simp
    try with_reducible rfl
  try simp only [Act.put, List.setIfInBounds_toArray, List.set_cons_zero, List.set_cons_succ]
  refine wpAnyH_take (i := 10) (oi := { dst := some 36, op := Op.move (Operand.tmp 35), type := 4, pos := "law.go:61", after := _, guard := none }) (v := ?_) rfl (by kernel_rfl) (by kernel_rfl) (by kernel_rfl) (fun _ _ _ h => h) (Or.inl ⟨by rfl, ?_⟩) (by assumption) ?_
  rotate_left
  · intro w hSw
    (try dsimp only at hSw)
    go_simp
    try with_reducible rfl
  try simp only [Act.put, List.setIfInBounds_toArray, List.set_cons_zero, List.set_cons_succ]
  refine wpAnyH_take (i := 11) (oi := { dst := some 37, op := Op.load 26 (Operand.tmp 4), type := 26, pos := "law.go:61", after := _, guard := some (10, true) }) (v := ?_) rfl (by kernel_rfl) (by kernel_rfl) (by kernel_rfl) (fun _ _ _ h => h) (Or.inl ⟨by rfl, ?_⟩) (by assumption) ?_
  rotate_left
  · intro w hSw
    (try dsimp only at hSw)
    go_simp
    try with_reducible rfl
  try simp only [Act.put, List.setIfInBounds_toArray, List.set_cons_zero, List.set_cons_succ]
  refine wpAnyH_ready (rs := [12]) (by kernel_rfl) (by simp) ?_
  refine AllReadyH.cons (o := { dst := some 38, op := Op.call { callee := Callee.value (Operand.func 40), args := #[Operand.const (Value.int IntKind.i64 1)], argTypes := #[3] }, type := 26, pos := "law.go:61", after := _, guard := some (10, true) }) rfl (fun K hK => ?_) ?_
  · go_simp
    refine (vote_any 1 T.drew).mono ?_
    rintro e w11 ⟨rfl, hb11x⟩
    unfold msA voteM
    dsimp only
    have hb11 : Below T.heap.size T w11 := ⟨hb11x.os, hb11x.tape, hb11x.output, hb11x.size, hb11x.block⟩
    have HB11 := hide hb11
    have HK11 := hide (show w11.cell? ⟨b4, 0, none⟩ = some (.int .i64 1) ∧ w11.cell? ⟨b4, 1, none⟩ = some (.int .i64 6) ∧ w11.cell? ⟨b4, 2, none⟩ = some (.int .i64 1) ∧ w11.cell? ⟨b4, 3, none⟩ = some (.int .i64 1) ∧ w11.cell? ⟨b4, 4, none⟩ = some (.int .i64 0) ∧ w11.cell? ⟨b4, 5, none⟩ = some (.int .i64 0) ∧ w11.cell? ⟨b4, 6, none⟩ = some (.int .i64 0) ∧ w11.cell? ⟨b4, 7, none⟩ = some (.int .i64 0) ∧ w11.cell? ⟨b4, 8, none⟩ = some (.bool false) ∧ w11.cell? ⟨b4, 9, none⟩ = some (.bool false) ∧ w11.cell? ⟨b4, 10, none⟩ = some (.slice pe ne ce) ∧ w11.cell? ⟨b4, 11, none⟩ = some (.slice pv nv cv) ∧ w11.cell? ⟨b4, 12, none⟩ = some (.slice pd nd cd) from ⟨(hb11.cell (lt_of_cell y0)).trans y0, (hb11.cell (lt_of_cell y1)).trans y1, (hb11.cell (lt_of_cell y2)).trans y2, (hb11.cell (lt_of_cell y3)).trans y3, (hb11.cell (lt_of_cell y4)).trans y4, (hb11.cell (lt_of_cell y5)).trans y5, (hb11.cell (lt_of_cell y6)).trans y6, (hb11.cell (lt_of_cell y7)).trans y7, (hb11.cell (lt_of_cell y8)).trans y8, (hb11.cell (lt_of_cell y9)).trans y9, (hb11.cell (lt_of_cell y10)).trans y10, (hb11.cell (lt_of_cell y11)).trans y11, (hb11.cell (lt_of_cell y12)).trans y12⟩)
    clear hb11 hb11x
    first
      | refine hK.out _ _ ?_ (fun hHeld => ?_)
      | (go_wp2_with fail; refine hK.out _ _ ?_ (fun hHeld => ?_))
    · (try dsimp only)
      exact HK11.out
    clear hK K
    try simp only [Act.put, List.setIfInBounds_toArray, List.set_cons_zero, List.set_cons_succ]
    refine wpAnyH_ready (rs := [13]) (by kernel_rfl) (by simp) ?_
    refine AllReadyH.cons (o := { dst := some 39, op := Op.call { callee := Callee.value (Operand.func 16), args := #[Operand.tmp 37, Operand.tmp 38], argTypes := #[26, 26] }, type := 4, pos := "law.go:61", after := _, guard := some (10, true) }) rfl (fun K hK => ?_) ?_
    · go_simp
      refine (sameM_any (m := voteM 1) (HMT.out.below HB11.out).v (voteM_v 1 (fits_lit (by omega)) w11)).mono ?_
      rintro e w12 ⟨rfl, hb12x⟩
      have hb12 : Below T.heap.size T w12 := HB11.out.trans (hb12x.mono HB11.out.size)
      have HB12 := hide hb12
      have HK12 := hide (show w12.cell? ⟨b4, 0, none⟩ = some (.int .i64 1) ∧ w12.cell? ⟨b4, 1, none⟩ = some (.int .i64 6) ∧ w12.cell? ⟨b4, 2, none⟩ = some (.int .i64 1) ∧ w12.cell? ⟨b4, 3, none⟩ = some (.int .i64 1) ∧ w12.cell? ⟨b4, 4, none⟩ = some (.int .i64 0) ∧ w12.cell? ⟨b4, 5, none⟩ = some (.int .i64 0) ∧ w12.cell? ⟨b4, 6, none⟩ = some (.int .i64 0) ∧ w12.cell? ⟨b4, 7, none⟩ = some (.int .i64 0) ∧ w12.cell? ⟨b4, 8, none⟩ = some (.bool false) ∧ w12.cell? ⟨b4, 9, none⟩ = some (.bool false) ∧ w12.cell? ⟨b4, 10, none⟩ = some (.slice pe ne ce) ∧ w12.cell? ⟨b4, 11, none⟩ = some (.slice pv nv cv) ∧ w12.cell? ⟨b4, 12, none⟩ = some (.slice pd nd cd) from ⟨(hb12.cell (lt_of_cell y0)).trans y0, (hb12.cell (lt_of_cell y1)).trans y1, (hb12.cell (lt_of_cell y2)).trans y2, (hb12.cell (lt_of_cell y3)).trans y3, (hb12.cell (lt_of_cell y4)).trans y4, (hb12.cell (lt_of_cell y5)).trans y5, (hb12.cell (lt_of_cell y6)).trans y6, (hb12.cell (lt_of_cell y7)).trans y7, (hb12.cell (lt_of_cell y8)).trans y8, (hb12.cell (lt_of_cell y9)).trans y9, (hb12.cell (lt_of_cell y10)).trans y10, (hb12.cell (lt_of_cell y11)).trans y11, (hb12.cell (lt_of_cell y12)).trans y12⟩)
      clear hb12 hb12x
      first
        | refine hK.out _ _ ?_ (fun hHeld => ?_)
        | (go_wp2_with fail; refine hK.out _ _ ?_ (fun hHeld => ?_))
      · (try dsimp only)
        exact HK12.out
      clear hK K
      try simp only [Act.put, List.setIfInBounds_toArray, List.set_cons_zero, List.set_cons_succ]
      refine wpAnyH_take (i := 14) (oi := { dst := some 40, op := Op.pick (Operand.tmp 36) (Operand.tmp 39) (Operand.const (Value.bool false)), type := 4, pos := "law.go:61", after := _, guard := none }) (v := ?_) rfl (by kernel_rfl) (by kernel_rfl) (by kernel_rfl) (fun _ _ _ h => h) (Or.inl ⟨by rfl, ?_⟩) (by assumption) ?_
      rotate_left
      · intro w hSw
        (try dsimp only at hSw)
        go_simp
        try with_reducible rfl
      try simp only [Act.put, List.setIfInBounds_toArray, List.set_cons_zero, List.set_cons_succ]
      refine wpAnyH_take (i := 15) (oi := { dst := some 41, op := Op.move (Operand.tmp 40), type := 4, pos := "law.go:61", after := _, guard := none }) (v := ?_) rfl (by kernel_rfl) (by kernel_rfl) (by kernel_rfl) (fun _ _ _ h => h) (Or.inl ⟨by rfl, ?_⟩) (by assumption) ?_
      rotate_left
      · intro w hSw
        (try dsimp only at hSw)
        go_simp
        try with_reducible rfl
      try simp only [Act.put, List.setIfInBounds_toArray, List.set_cons_zero, List.set_cons_succ]
      refine wpAnyH_take (i := 16) (oi := { dst := some 42, op := Op.move (Operand.tmp 7), type := 31, pos := "law.go:61", after := _, guard := some (15, true) }) (v := ?_) rfl (by kernel_rfl) (by kernel_rfl) (by kernel_rfl) (fun _ _ _ h => h) (Or.inl ⟨by rfl, ?_⟩) (by assumption) ?_
      rotate_left
      · intro w hSw
        (try dsimp only at hSw)
        go_simp
        try with_reducible rfl
      try simp only [Act.put, List.setIfInBounds_toArray, List.set_cons_zero, List.set_cons_succ]
      refine wpAnyH_take (i := 17) (oi := { dst := some 43, op := Op.binOp BinOp.eql 31 (Operand.tmp 42) (Operand.const (Value.int IntKind.i64 130)) 31, type := 4, pos := "law.go:61", after := _, guard := some (15, true) }) (v := ?_) rfl (by kernel_rfl) (by kernel_rfl) (by kernel_rfl) (fun _ _ _ h => h) (Or.inl ⟨by rfl, ?_⟩) (by assumption) ?_
      rotate_left
      · intro w hSw
        (try dsimp only at hSw)
        go_simp
        try with_reducible rfl
      try simp only [Act.put, List.setIfInBounds_toArray, List.set_cons_zero, List.set_cons_succ]
      refine wpAnyH_take (i := 18) (oi := { dst := some 44, op := Op.pick (Operand.tmp 41) (Operand.tmp 43) (Operand.const (Value.bool false)), type := 4, pos := "law.go:61", after := _, guard := none }) (v := ?_) rfl (by kernel_rfl) (by kernel_rfl) (by kernel_rfl) (fun _ _ _ h => h) (Or.inl ⟨by rfl, ?_⟩) (by assumption) ?_
      rotate_left
      · intro w hSw
        (try dsimp only at hSw)
        go_simp
        try with_reducible rfl
      try simp only [Act.put, List.setIfInBounds_toArray, List.set_cons_zero, List.set_cons_succ]
      refine wpAnyH_take (i := 19) (oi := { dst := some 45, op := Op.move (Operand.tmp 44), type := 4, pos := "law.go:61", after := _, guard := none }) (v := ?_) rfl (by kernel_rfl) (by kernel_rfl) (by kernel_rfl) (fun _ _ _ h => h) (Or.inl ⟨by rfl, ?_⟩) (by assumption) ?_
      rotate_left
      · intro w hSw
        (try dsimp only at hSw)
        go_simp
        try with_reducible rfl
      try simp only [Act.put, List.setIfInBounds_toArray, List.set_cons_zero, List.set_cons_succ]
      refine wpAnyH_take (i := 20) (oi := { dst := some 46, op := Op.move (Operand.tmp 1), type := 46, pos := "law.go:61", after := _, guard := some (19, true) }) (v := ?_) rfl (by kernel_rfl) (by kernel_rfl) (by kernel_rfl) (fun _ _ _ h => h) (Or.inl ⟨by rfl, ?_⟩) (by assumption) ?_
      rotate_left
      · intro w hSw
        (try dsimp only at hSw)
        go_simp
        try with_reducible rfl
      try simp only [Act.put, List.setIfInBounds_toArray, List.set_cons_zero, List.set_cons_succ]
      refine wpAnyH_ready (rs := [21]) (by kernel_rfl) (by simp) ?_
      refine AllReadyH.cons (o := { dst := some 47, op := Op.call { callee := Callee.value (Operand.func 26), args := #[Operand.tmp 46, Operand.const (Value.int IntKind.i64 2)], argTypes := #[46, 3] }, type := 31, pos := "law.go:61", after := _, guard := some (19, true) }) rfl (fun K hK => ?_) ?_
      · go_simp
        refine (lose_bag (HGT.out.below HB12.out) (HTT.out.below HB12.out) 2).mono ?_
        unfold LosePost
        rw [aw_hit2, aw_lose2]
        rintro e w13 ⟨rfl, v13, ⟨hg13, _⟩, hc13⟩
        have HG13 := hide hg13
        have hcc : ∀ i u, T.cell? ⟨b4, i, none⟩ = some u → w13.cell? ⟨b4, i, none⟩ = some u := fun i u hu => hc13.cell ((HB12.out.cell (lt_of_cell hu)).trans hu) (fun hk => by have := HS4.out _ hk; have e6 : (⟨b4, i, none⟩ : Addr).block = b4 := rfl; omega)
        have HBW13 := hide (Chg.to_below (HBT.out.trans (HB12.out.mono HBT.out.size)) hc13 (fun k hk => (HGT.out.S k hk).1))
        have HK13 := hide (show w13.cell? ⟨b4, 0, none⟩ = some (.int .i64 1) ∧ w13.cell? ⟨b4, 1, none⟩ = some (.int .i64 6) ∧ w13.cell? ⟨b4, 2, none⟩ = some (.int .i64 1) ∧ w13.cell? ⟨b4, 3, none⟩ = some (.int .i64 1) ∧ w13.cell? ⟨b4, 4, none⟩ = some (.int .i64 0) ∧ w13.cell? ⟨b4, 5, none⟩ = some (.int .i64 0) ∧ w13.cell? ⟨b4, 6, none⟩ = some (.int .i64 0) ∧ w13.cell? ⟨b4, 7, none⟩ = some (.int .i64 0) ∧ w13.cell? ⟨b4, 8, none⟩ = some (.bool false) ∧ w13.cell? ⟨b4, 9, none⟩ = some (.bool false) ∧ w13.cell? ⟨b4, 10, none⟩ = some (.slice pe ne ce) ∧ w13.cell? ⟨b4, 11, none⟩ = some (.slice pv nv cv) ∧ w13.cell? ⟨b4, 12, none⟩ = some (.slice pd nd cd) from ⟨hcc 0 _ y0, hcc 1 _ y1, hcc 2 _ y2, hcc 3 _ y3, hcc 4 _ y4, hcc 5 _ y5, hcc 6 _ y6, hcc 7 _ y7, hcc 8 _ y8, hcc 9 _ y9, hcc 10 _ y10, hcc 11 _ y11, hcc 12 _ y12⟩)
        clear hg13 hc13 hcc
        first
          | refine hK.out _ _ ?_ (fun hHeld => ?_)
          | (go_wp2_with fail; refine hK.out _ _ ?_ (fun hHeld => ?_))
        · (try dsimp only)
          exact HK13.out
        clear hK K
        try simp only [Act.put, List.setIfInBounds_toArray, List.set_cons_zero, List.set_cons_succ]
        refine wpAnyH_take (i := 22) (oi := { dst := some 48, op := Op.binOp BinOp.eql 31 (Operand.tmp 47) (Operand.const (Value.int IntKind.i64 0)) 31, type := 4, pos := "law.go:61", after := _, guard := some (19, true) }) (v := ?_) rfl (by kernel_rfl) (by kernel_rfl) (by kernel_rfl) (fun _ _ _ h => h) (Or.inl ⟨by rfl, ?_⟩) (by assumption) ?_
        rotate_left
        · intro w hSw
          (try dsimp only at hSw)
          go_simp
          try with_reducible rfl
        try simp only [Act.put, List.setIfInBounds_toArray, List.set_cons_zero, List.set_cons_succ]
        refine wpAnyH_take (i := 23) (oi := { dst := some 49, op := Op.pick (Operand.tmp 45) (Operand.tmp 48) (Operand.const (Value.bool false)), type := 4, pos := "law.go:61", after := _, guard := none }) (v := ?_) rfl (by kernel_rfl) (by kernel_rfl) (by kernel_rfl) (fun _ _ _ h => h) (Or.inl ⟨by rfl, ?_⟩) (by assumption) ?_
        rotate_left
        · intro w hSw
          (try dsimp only at hSw)
          go_simp
          try with_reducible rfl
        try simp only [Act.put, List.setIfInBounds_toArray, List.set_cons_zero, List.set_cons_succ]
        refine wpAnyH_take (i := 24) (oi := { dst := some 50, op := Op.move (Operand.tmp 49), type := 4, pos := "law.go:61", after := _, guard := none }) (v := ?_) rfl (by kernel_rfl) (by kernel_rfl) (by kernel_rfl) (fun _ _ _ h => h) (Or.inl ⟨by rfl, ?_⟩) (by assumption) ?_
        rotate_left
        · intro w hSw
          (try dsimp only at hSw)
          go_simp
          try with_reducible rfl
        try simp only [Act.put, List.setIfInBounds_toArray, List.set_cons_zero, List.set_cons_succ]
        refine wpAnyH_take (i := 25) (oi := { dst := some 51, op := Op.move (Operand.tmp 1), type := 46, pos := "law.go:61", after := _, guard := some (24, true) }) (v := ?_) rfl (by kernel_rfl) (by kernel_rfl) (by kernel_rfl) (fun _ _ _ h => h) (Or.inl ⟨by rfl, ?_⟩) (by assumption) ?_
        rotate_left
        · intro w hSw
          (try dsimp only at hSw)
          go_simp
          try with_reducible rfl
        try simp only [Act.put, List.setIfInBounds_toArray, List.set_cons_zero, List.set_cons_succ]
        refine wpAnyH_ready (rs := [26, 27]) (by kernel_rfl) (by simp) ?_
        refine AllReadyH.cons (o := { dst := some 52, op := Op.call { callee := Callee.value (Operand.func 33), args := #[Operand.tmp 51], argTypes := #[46] }, type := 23, pos := "law.go:61", after := _, guard := some (24, true) }) rfl (fun K hK => ?_) ?_
        · go_simp
          refine (list_bag HG13.out).mono ?_
          rintro e w14 ⟨v14, rfl, ho14, hb14⟩
          obtain ⟨p14, n14, c14, rfl⟩ := ho14.ns.sl
          have HO14 := hide ho14
          have HBW14 := hide (HBW13.out.trans (hb14.mono HBW13.out.size))
          obtain ⟨x0, x1, x2, x3, x4, x5, x6, x7, x8, x9, x10, x11, x12⟩ := HK13.out
          have HK14 := hide (show w14.cell? ⟨b4, 0, none⟩ = some (.int .i64 1) ∧ w14.cell? ⟨b4, 1, none⟩ = some (.int .i64 6) ∧ w14.cell? ⟨b4, 2, none⟩ = some (.int .i64 1) ∧ w14.cell? ⟨b4, 3, none⟩ = some (.int .i64 1) ∧ w14.cell? ⟨b4, 4, none⟩ = some (.int .i64 0) ∧ w14.cell? ⟨b4, 5, none⟩ = some (.int .i64 0) ∧ w14.cell? ⟨b4, 6, none⟩ = some (.int .i64 0) ∧ w14.cell? ⟨b4, 7, none⟩ = some (.int .i64 0) ∧ w14.cell? ⟨b4, 8, none⟩ = some (.bool false) ∧ w14.cell? ⟨b4, 9, none⟩ = some (.bool false) ∧ w14.cell? ⟨b4, 10, none⟩ = some (.slice pe ne ce) ∧ w14.cell? ⟨b4, 11, none⟩ = some (.slice pv nv cv) ∧ w14.cell? ⟨b4, 12, none⟩ = some (.slice pd nd cd) from ⟨(hb14.cell (lt_of_cell x0)).trans x0, (hb14.cell (lt_of_cell x1)).trans x1, (hb14.cell (lt_of_cell x2)).trans x2, (hb14.cell (lt_of_cell x3)).trans x3, (hb14.cell (lt_of_cell x4)).trans x4, (hb14.cell (lt_of_cell x5)).trans x5, (hb14.cell (lt_of_cell x6)).trans x6, (hb14.cell (lt_of_cell x7)).trans x7, (hb14.cell (lt_of_cell x8)).trans x8, (hb14.cell (lt_of_cell x9)).trans x9, (hb14.cell (lt_of_cell x10)).trans x10, (hb14.cell (lt_of_cell x11)).trans x11, (hb14.cell (lt_of_cell x12)).trans x12⟩)
          clear hb14 ho14 x0 x1 x2 x3 x4 x5 x6 x7 x8 x9 x10 x11 x12
          first
            | refine hK.out _ _ ?_ (fun hHeld => ?_)
            | (go_wp2_with fail; refine hK.out _ _ ?_ (fun hHeld => ?_))
          · (try dsimp only)
            exact HK14.out
          clear hK K
          try simp only [Act.put, List.setIfInBounds_toArray, List.set_cons_zero, List.set_cons_succ]
          refine wpAnyH_ready (rs := [27]) (by kernel_rfl) (by simp) ?_
          refine AllReadyH.cons (o := { dst := some 53, op := Op.buildSlice 23 1 #[(0, Operand.const (Value.int IntKind.i64 3))], type := 23, pos := "law.go:61", after := _, guard := some (24, true) }) rfl (fun K hK => ?_) ?_
          · obtain ⟨x0, x1, x2, x3, x4, x5, x6, x7, x8, x9, x10, x11, x12⟩ := HK14.out
            have hb15 := (Below.refl w14.heap.size w14).alloc (Nat.le_refl _) (.cells #[.int .i64 3] 3)
            have HO15 := hide (HO14.out.below hb15).ns
            have HN15 : Hid (Ns (w14.alloc (.cells #[.int .i64 3] 3)) (.slice (some ⟨w14.heap.size, 0, none⟩) 1 1) [3]) := hide ⟨_, 1, rfl, Nat.le_refl _, by decide, (fun e => by cases e), (by intro x hx; simp at hx; subst hx; exact fits_lit (by omega)), fun _ => ⟨_, 0, rfl, fun i x hi => by
              cases i with
              | zero => simp at hi; subst hi; rw [cell_of_row _ w14.heap.size _ _ _ (0, 0) (heap_alloc_new w14 _)]; rfl
              | succ i => simp at hi⟩⟩
            have HBW15 := hide (HBW14.out.trans (hb15.mono HBW14.out.size))
            have HK15 := hide (show (w14.alloc (.cells #[.int .i64 3] 3)).cell? ⟨b4, 0, none⟩ = some (.int .i64 1) ∧ (w14.alloc (.cells #[.int .i64 3] 3)).cell? ⟨b4, 1, none⟩ = some (.int .i64 6) ∧ (w14.alloc (.cells #[.int .i64 3] 3)).cell? ⟨b4, 2, none⟩ = some (.int .i64 1) ∧ (w14.alloc (.cells #[.int .i64 3] 3)).cell? ⟨b4, 3, none⟩ = some (.int .i64 1) ∧ (w14.alloc (.cells #[.int .i64 3] 3)).cell? ⟨b4, 4, none⟩ = some (.int .i64 0) ∧ (w14.alloc (.cells #[.int .i64 3] 3)).cell? ⟨b4, 5, none⟩ = some (.int .i64 0) ∧ (w14.alloc (.cells #[.int .i64 3] 3)).cell? ⟨b4, 6, none⟩ = some (.int .i64 0) ∧ (w14.alloc (.cells #[.int .i64 3] 3)).cell? ⟨b4, 7, none⟩ = some (.int .i64 0) ∧ (w14.alloc (.cells #[.int .i64 3] 3)).cell? ⟨b4, 8, none⟩ = some (.bool false) ∧ (w14.alloc (.cells #[.int .i64 3] 3)).cell? ⟨b4, 9, none⟩ = some (.bool false) ∧ (w14.alloc (.cells #[.int .i64 3] 3)).cell? ⟨b4, 10, none⟩ = some (.slice pe ne ce) ∧ (w14.alloc (.cells #[.int .i64 3] 3)).cell? ⟨b4, 11, none⟩ = some (.slice pv nv cv) ∧ (w14.alloc (.cells #[.int .i64 3] 3)).cell? ⟨b4, 12, none⟩ = some (.slice pd nd cd) from ⟨(hb15.cell (lt_of_cell x0)).trans x0, (hb15.cell (lt_of_cell x1)).trans x1, (hb15.cell (lt_of_cell x2)).trans x2, (hb15.cell (lt_of_cell x3)).trans x3, (hb15.cell (lt_of_cell x4)).trans x4, (hb15.cell (lt_of_cell x5)).trans x5, (hb15.cell (lt_of_cell x6)).trans x6, (hb15.cell (lt_of_cell x7)).trans x7, (hb15.cell (lt_of_cell x8)).trans x8, (hb15.cell (lt_of_cell x9)).trans x9, (hb15.cell (lt_of_cell x10)).trans x10, (hb15.cell (lt_of_cell x11)).trans x11, (hb15.cell (lt_of_cell x12)).trans x12⟩)
            clear hb15 x0 x1 x2 x3 x4 x5 x6 x7 x8 x9 x10 x11 x12
            go_simp
            first
              | refine hK.out _ _ ?_ (fun hHeld => ?_)
              | (go_wp2_with fail; refine hK.out _ _ ?_ (fun hHeld => ?_))
            · (try dsimp only)
              exact HK15.out
            clear hK K
            try simp only [Act.put, List.setIfInBounds_toArray, List.set_cons_zero, List.set_cons_succ]
            refine wpAnyH_ready (rs := [28]) (by kernel_rfl) (by simp) ?_
            refine AllReadyH.cons (o := { dst := some 54, op := Op.call { callee := Callee.value (Operand.func 34), args := #[Operand.tmp 52, Operand.tmp 53], argTypes := #[23, 23] }, type := 4, pos := "law.go:61", after := _, guard := some (24, true) }) rfl (fun K hK => ?_) ?_
            · go_simp
              refine (eqInts_any HO15.out HN15.out).mono ?_
              rintro e w16 ⟨rfl, hb16⟩
              obtain ⟨x0, x1, x2, x3, x4, x5, x6, x7, x8, x9, x10, x11, x12⟩ := HK15.out
              have HBW16 := hide (HBW15.out.trans (hb16.mono HBW15.out.size))
              have HK16 := hide (show w16.cell? ⟨b4, 0, none⟩ = some (.int .i64 1) ∧ w16.cell? ⟨b4, 1, none⟩ = some (.int .i64 6) ∧ w16.cell? ⟨b4, 2, none⟩ = some (.int .i64 1) ∧ w16.cell? ⟨b4, 3, none⟩ = some (.int .i64 1) ∧ w16.cell? ⟨b4, 4, none⟩ = some (.int .i64 0) ∧ w16.cell? ⟨b4, 5, none⟩ = some (.int .i64 0) ∧ w16.cell? ⟨b4, 6, none⟩ = some (.int .i64 0) ∧ w16.cell? ⟨b4, 7, none⟩ = some (.int .i64 0) ∧ w16.cell? ⟨b4, 8, none⟩ = some (.bool false) ∧ w16.cell? ⟨b4, 9, none⟩ = some (.bool false) ∧ w16.cell? ⟨b4, 10, none⟩ = some (.slice pe ne ce) ∧ w16.cell? ⟨b4, 11, none⟩ = some (.slice pv nv cv) ∧ w16.cell? ⟨b4, 12, none⟩ = some (.slice pd nd cd) from ⟨(hb16.cell (lt_of_cell x0)).trans x0, (hb16.cell (lt_of_cell x1)).trans x1, (hb16.cell (lt_of_cell x2)).trans x2, (hb16.cell (lt_of_cell x3)).trans x3, (hb16.cell (lt_of_cell x4)).trans x4, (hb16.cell (lt_of_cell x5)).trans x5, (hb16.cell (lt_of_cell x6)).trans x6, (hb16.cell (lt_of_cell x7)).trans x7, (hb16.cell (lt_of_cell x8)).trans x8, (hb16.cell (lt_of_cell x9)).trans x9, (hb16.cell (lt_of_cell x10)).trans x10, (hb16.cell (lt_of_cell x11)).trans x11, (hb16.cell (lt_of_cell x12)).trans x12⟩)
              clear hb16 x0 x1 x2 x3 x4 x5 x6 x7 x8 x9 x10 x11 x12
              first
                | refine hK.out _ _ ?_ (fun hHeld => ?_)
                | (go_wp2_with fail; refine hK.out _ _ ?_ (fun hHeld => ?_))
              · (try dsimp only)
                exact HK16.out
              clear hK K
              try simp only [Act.put, List.setIfInBounds_toArray, List.set_cons_zero, List.set_cons_succ]
              refine wpAnyH_take (i := 29) (oi := { dst := some 55, op := Op.pick (Operand.tmp 50) (Operand.tmp 54) (Operand.const (Value.bool false)), type := 4, pos := "law.go:61", after := _, guard := none }) (v := ?_) rfl (by kernel_rfl) (by kernel_rfl) (by kernel_rfl) (fun _ _ _ h => h) (Or.inl ⟨by rfl, ?_⟩) (by assumption) ?_
              rotate_left
              · intro w hSw
                (try dsimp only at hSw)
                go_simp
                try with_reducible rfl
              try simp only [Act.put, List.setIfInBounds_toArray, List.set_cons_zero, List.set_cons_succ]
              refine wpAnyH_ready (rs := [30]) (by kernel_rfl) (by simp) ?_
              refine AllReadyH.cons (o := { dst := some 0, op := Op.assign (Operand.tmp 55), type := 4, pos := "law.go:61", after := _, guard := none }) rfl (fun K hK => ?_) ?_
              · go_simp
                first
                  | refine hK.out _ _ ?_ (fun hHeld => ?_)
                  | (go_wp2_with fail; refine hK.out _ _ ?_ (fun hHeld => ?_))
                · (try dsimp only)
                  first | assumption | go_keep
                clear hK K
                try simp only [Act.put, List.setIfInBounds_toArray, List.set_cons_zero, List.set_cons_succ]
                refine wpAnyH_done (by kernel_rfl) ?_ _
                go_wp2
                go_ret
                exact ⟨rfl, HBW16.out⟩
              exact AllReadyH.nil
            exact AllReadyH.nil
          exact AllReadyH.nil
        refine AllReadyH.cons (o := { dst := some 53, op := Op.buildSlice 23 1 #[(0, Operand.const (Value.int IntKind.i64 3))], type := 23, pos := "law.go:61", after := _, guard := some (24, true) }) rfl (fun K hK => ?_) ?_
        · obtain ⟨x0, x1, x2, x3, x4, x5, x6, x7, x8, x9, x10, x11, x12⟩ := HK13.out
          have hb15 := (Below.refl w13.heap.size w13).alloc (Nat.le_refl _) (.cells #[.int .i64 3] 3)
          have HN15 : Hid (Ns (w13.alloc (.cells #[.int .i64 3] 3)) (.slice (some ⟨w13.heap.size, 0, none⟩) 1 1) [3]) := hide ⟨_, 1, rfl, Nat.le_refl _, by decide, (fun e => by cases e), (by intro x hx; simp at hx; subst hx; exact fits_lit (by omega)), fun _ => ⟨_, 0, rfl, fun i x hi => by
            cases i with
            | zero => simp at hi; subst hi; rw [cell_of_row _ w13.heap.size _ _ _ (0, 0) (heap_alloc_new w13 _)]; rfl
            | succ i => simp at hi⟩⟩
          have HBW15 := hide (HBW13.out.trans (hb15.mono HBW13.out.size))
          have HG15 := hide (HG13.out.below hb15)
          have HK15 := hide (show (w13.alloc (.cells #[.int .i64 3] 3)).cell? ⟨b4, 0, none⟩ = some (.int .i64 1) ∧ (w13.alloc (.cells #[.int .i64 3] 3)).cell? ⟨b4, 1, none⟩ = some (.int .i64 6) ∧ (w13.alloc (.cells #[.int .i64 3] 3)).cell? ⟨b4, 2, none⟩ = some (.int .i64 1) ∧ (w13.alloc (.cells #[.int .i64 3] 3)).cell? ⟨b4, 3, none⟩ = some (.int .i64 1) ∧ (w13.alloc (.cells #[.int .i64 3] 3)).cell? ⟨b4, 4, none⟩ = some (.int .i64 0) ∧ (w13.alloc (.cells #[.int .i64 3] 3)).cell? ⟨b4, 5, none⟩ = some (.int .i64 0) ∧ (w13.alloc (.cells #[.int .i64 3] 3)).cell? ⟨b4, 6, none⟩ = some (.int .i64 0) ∧ (w13.alloc (.cells #[.int .i64 3] 3)).cell? ⟨b4, 7, none⟩ = some (.int .i64 0) ∧ (w13.alloc (.cells #[.int .i64 3] 3)).cell? ⟨b4, 8, none⟩ = some (.bool false) ∧ (w13.alloc (.cells #[.int .i64 3] 3)).cell? ⟨b4, 9, none⟩ = some (.bool false) ∧ (w13.alloc (.cells #[.int .i64 3] 3)).cell? ⟨b4, 10, none⟩ = some (.slice pe ne ce) ∧ (w13.alloc (.cells #[.int .i64 3] 3)).cell? ⟨b4, 11, none⟩ = some (.slice pv nv cv) ∧ (w13.alloc (.cells #[.int .i64 3] 3)).cell? ⟨b4, 12, none⟩ = some (.slice pd nd cd) from ⟨(hb15.cell (lt_of_cell x0)).trans x0, (hb15.cell (lt_of_cell x1)).trans x1, (hb15.cell (lt_of_cell x2)).trans x2, (hb15.cell (lt_of_cell x3)).trans x3, (hb15.cell (lt_of_cell x4)).trans x4, (hb15.cell (lt_of_cell x5)).trans x5, (hb15.cell (lt_of_cell x6)).trans x6, (hb15.cell (lt_of_cell x7)).trans x7, (hb15.cell (lt_of_cell x8)).trans x8, (hb15.cell (lt_of_cell x9)).trans x9, (hb15.cell (lt_of_cell x10)).trans x10, (hb15.cell (lt_of_cell x11)).trans x11, (hb15.cell (lt_of_cell x12)).trans x12⟩)
          clear hb15 x0 x1 x2 x3 x4 x5 x6 x7 x8 x9 x10 x11 x12
          go_simp
          first
            | refine hK.out _ _ ?_ (fun hHeld => ?_)
            | (go_wp2_with fail; refine hK.out _ _ ?_ (fun hHeld => ?_))
          · (try dsimp only)
            exact HK15.out
          clear hK K
          try simp only [Act.put, List.setIfInBounds_toArray, List.set_cons_zero, List.set_cons_succ]
          refine wpAnyH_ready (rs := [26]) (by kernel_rfl) (by simp) ?_
          refine AllReadyH.cons (o := { dst := some 52, op := Op.call { callee := Callee.value (Operand.func 33), args := #[Operand.tmp 51], argTypes := #[46] }, type := 23, pos := "law.go:61", after := _, guard := some (24, true) }) rfl (fun K hK => ?_) ?_
          · go_simp
            refine (list_bag HG15.out).mono ?_
            rintro e w14 ⟨v14, rfl, ho14, hb14⟩
            obtain ⟨p14, n14, c14, rfl⟩ := ho14.ns.sl
            have HO15 := hide ho14.ns
            have HN16 := hide (HN15.out.below hb14)
            have HBW16 := hide (HBW15.out.trans (hb14.mono HBW15.out.size))
            obtain ⟨x0, x1, x2, x3, x4, x5, x6, x7, x8, x9, x10, x11, x12⟩ := HK15.out
            have HK14 := hide (show w14.cell? ⟨b4, 0, none⟩ = some (.int .i64 1) ∧ w14.cell? ⟨b4, 1, none⟩ = some (.int .i64 6) ∧ w14.cell? ⟨b4, 2, none⟩ = some (.int .i64 1) ∧ w14.cell? ⟨b4, 3, none⟩ = some (.int .i64 1) ∧ w14.cell? ⟨b4, 4, none⟩ = some (.int .i64 0) ∧ w14.cell? ⟨b4, 5, none⟩ = some (.int .i64 0) ∧ w14.cell? ⟨b4, 6, none⟩ = some (.int .i64 0) ∧ w14.cell? ⟨b4, 7, none⟩ = some (.int .i64 0) ∧ w14.cell? ⟨b4, 8, none⟩ = some (.bool false) ∧ w14.cell? ⟨b4, 9, none⟩ = some (.bool false) ∧ w14.cell? ⟨b4, 10, none⟩ = some (.slice pe ne ce) ∧ w14.cell? ⟨b4, 11, none⟩ = some (.slice pv nv cv) ∧ w14.cell? ⟨b4, 12, none⟩ = some (.slice pd nd cd) from ⟨(hb14.cell (lt_of_cell x0)).trans x0, (hb14.cell (lt_of_cell x1)).trans x1, (hb14.cell (lt_of_cell x2)).trans x2, (hb14.cell (lt_of_cell x3)).trans x3, (hb14.cell (lt_of_cell x4)).trans x4, (hb14.cell (lt_of_cell x5)).trans x5, (hb14.cell (lt_of_cell x6)).trans x6, (hb14.cell (lt_of_cell x7)).trans x7, (hb14.cell (lt_of_cell x8)).trans x8, (hb14.cell (lt_of_cell x9)).trans x9, (hb14.cell (lt_of_cell x10)).trans x10, (hb14.cell (lt_of_cell x11)).trans x11, (hb14.cell (lt_of_cell x12)).trans x12⟩)
            clear HK15 HN15 HBW15
            have HN15 := HN16
            have HBW15 := HBW16
            have HK15 := HK14
            clear hb14 ho14 HN16 HBW16 x0 x1 x2 x3 x4 x5 x6 x7 x8 x9 x10 x11 x12
            first
              | refine hK.out _ _ ?_ (fun hHeld => ?_)
              | (go_wp2_with fail; refine hK.out _ _ ?_ (fun hHeld => ?_))
            · (try dsimp only)
              exact HK14.out
            clear hK K
            try simp only [Act.put, List.setIfInBounds_toArray, List.set_cons_zero, List.set_cons_succ]
            refine wpAnyH_ready (rs := [28]) (by kernel_rfl) (by simp) ?_
            refine AllReadyH.cons (o := { dst := some 54, op := Op.call { callee := Callee.value (Operand.func 34), args := #[Operand.tmp 52, Operand.tmp 53], argTypes := #[23, 23] }, type := 4, pos := "law.go:61", after := _, guard := some (24, true) }) rfl (fun K hK => ?_) ?_
            · go_simp
              refine (eqInts_any HO15.out HN15.out).mono ?_
              rintro e w16 ⟨rfl, hb16⟩
              obtain ⟨x0, x1, x2, x3, x4, x5, x6, x7, x8, x9, x10, x11, x12⟩ := HK15.out
              have HBW16 := hide (HBW15.out.trans (hb16.mono HBW15.out.size))
              have HK16 := hide (show w16.cell? ⟨b4, 0, none⟩ = some (.int .i64 1) ∧ w16.cell? ⟨b4, 1, none⟩ = some (.int .i64 6) ∧ w16.cell? ⟨b4, 2, none⟩ = some (.int .i64 1) ∧ w16.cell? ⟨b4, 3, none⟩ = some (.int .i64 1) ∧ w16.cell? ⟨b4, 4, none⟩ = some (.int .i64 0) ∧ w16.cell? ⟨b4, 5, none⟩ = some (.int .i64 0) ∧ w16.cell? ⟨b4, 6, none⟩ = some (.int .i64 0) ∧ w16.cell? ⟨b4, 7, none⟩ = some (.int .i64 0) ∧ w16.cell? ⟨b4, 8, none⟩ = some (.bool false) ∧ w16.cell? ⟨b4, 9, none⟩ = some (.bool false) ∧ w16.cell? ⟨b4, 10, none⟩ = some (.slice pe ne ce) ∧ w16.cell? ⟨b4, 11, none⟩ = some (.slice pv nv cv) ∧ w16.cell? ⟨b4, 12, none⟩ = some (.slice pd nd cd) from ⟨(hb16.cell (lt_of_cell x0)).trans x0, (hb16.cell (lt_of_cell x1)).trans x1, (hb16.cell (lt_of_cell x2)).trans x2, (hb16.cell (lt_of_cell x3)).trans x3, (hb16.cell (lt_of_cell x4)).trans x4, (hb16.cell (lt_of_cell x5)).trans x5, (hb16.cell (lt_of_cell x6)).trans x6, (hb16.cell (lt_of_cell x7)).trans x7, (hb16.cell (lt_of_cell x8)).trans x8, (hb16.cell (lt_of_cell x9)).trans x9, (hb16.cell (lt_of_cell x10)).trans x10, (hb16.cell (lt_of_cell x11)).trans x11, (hb16.cell (lt_of_cell x12)).trans x12⟩)
              clear hb16 x0 x1 x2 x3 x4 x5 x6 x7 x8 x9 x10 x11 x12
              first
                | refine hK.out _ _ ?_ (fun hHeld => ?_)
                | (go_wp2_with fail; refine hK.out _ _ ?_ (fun hHeld => ?_))
              · (try dsimp only)
                exact HK16.out
              clear hK K
              try simp only [Act.put, List.setIfInBounds_toArray, List.set_cons_zero, List.set_cons_succ]
              refine wpAnyH_take (i := 29) (oi := { dst := some 55, op := Op.pick (Operand.tmp 50) (Operand.tmp 54) (Operand.const (Value.bool false)), type := 4, pos := "law.go:61", after := _, guard := none }) (v := ?_) rfl (by kernel_rfl) (by kernel_rfl) (by kernel_rfl) (fun _ _ _ h => h) (Or.inl ⟨by rfl, ?_⟩) (by assumption) ?_
              rotate_left
              · intro w hSw
                (try dsimp only at hSw)
                go_simp
                try with_reducible rfl
              try simp only [Act.put, List.setIfInBounds_toArray, List.set_cons_zero, List.set_cons_succ]
              refine wpAnyH_ready (rs := [30]) (by kernel_rfl) (by simp) ?_
              refine AllReadyH.cons (o := { dst := some 0, op := Op.assign (Operand.tmp 55), type := 4, pos := "law.go:61", after := _, guard := none }) rfl (fun K hK => ?_) ?_
              · go_simp
                first
                  | refine hK.out _ _ ?_ (fun hHeld => ?_)
                  | (go_wp2_with fail; refine hK.out _ _ ?_ (fun hHeld => ?_))
                · (try dsimp only)
                  first | assumption | go_keep
                clear hK K
                try simp only [Act.put, List.setIfInBounds_toArray, List.set_cons_zero, List.set_cons_succ]
                refine wpAnyH_done (by kernel_rfl) ?_ _
                go_wp2
                go_ret
                exact ⟨rfl, HBW16.out⟩
              exact AllReadyH.nil
            exact AllReadyH.nil
          exact AllReadyH.nil
        exact AllReadyH.nil
      exact AllReadyH.nil
    exact AllReadyH.nil
  exact AllReadyH.nil
end Go.Proofs.Ytiiollgipfggmaa
