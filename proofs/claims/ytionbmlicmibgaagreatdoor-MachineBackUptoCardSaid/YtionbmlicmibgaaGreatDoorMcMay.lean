import Derived.Test.YtionbmlicmibgaaGreatDoorMcNob
namespace Go.Proofs.YtionbmlicmibgaaGreatDoor
set_option linter.unusedVariables false
set_option linter.unusedSimpArgs false
open Go.RowKit
structure McIz (w : World) (P : Pm) (m : Mp) : Prop where
 row : RowM w P m
 so : SoIs w P.gs P.bm P.R
 pl : P.R.map Tr.pl = m.S
 tb : TbIs w P.gt P.bt m.L
 vo : OwnN 0 w P.vv m.vo
 er : ErrT w
 a1 : ∀ k, SoS P.gs P.bm P.R k → k ≠ P.gi ∧ k ≠ P.gt ∧ k ≠ P.bt
 a2 : P.gi ≠ P.gt ∧ P.gi ≠ P.bt
 a3 : ∀ k, P.vv.ownBlock = some k → k ≠ P.gi ∧ k ≠ P.gt ∧ k ≠ P.bt ∧ ¬ SoS P.gs P.bm P.R k
 nz : ∀ k, McS P k → k ≠ 0
theorem McIz.is {w : World} {P : Pm} {m : Mp} (h : McIz w P m) (hk : m.Ok) : McIs w P m := ⟨h.row, h.so, h.pl, h.tb, h.vo, hk, h.er, h.a1, h.a2, h.a3, h.nz⟩
theorem McIz.below {w w' : World} {P : Pm} {m : Mp} (h : McIz w P m) (hb : Below w.heap.size w w') : McIz w' P m :=
 ⟨(hb.block _ h.row.lt).trans h.row, h.so.below hb, h.pl, h.tb.below hb, h.vo.below hb, h.er.below hb, h.a1, h.a2, h.a3, h.nz⟩
def seatsIn (ix : Int) (L : List St) : Bool := L.all fun x => !(decide (ix < x.s) || decide (ix < x.a))
def mayB (m : Mp) : Bool := !decide (1099511627776 < m.ix) && (!decide (1099511627776 < m.tm) && (!((m.ix == 0) != (m.tm == 0)) && (okR m.vo && seatsIn m.ix m.L)))
theorem seatsIn_take {ix : Int} {L : List St} {k : Nat} {x : St} (h : L[k]? = some x) : seatsIn ix (L.take (k + 1)) = (seatsIn ix (L.take k) && !(decide (ix < x.s) || decide (ix < x.a))) := by
 unfold seatsIn
 rw [List.take_add_one, h]
 simp
theorem seatsIn_no {ix : Int} {L : List St} {k : Nat} {x : St} (h : L[k]? = some x) (hx : (decide (ix < x.s) || decide (ix < x.a)) = true) : seatsIn ix L = false := by
 cases hc : seatsIn ix L with
 | false => rfl
 | true =>
  unfold seatsIn at hc
  have := List.all_eq_true.1 hc x (List.mem_of_getElem? h)
  rw [hx] at this
  simp at this
set_option maxRecDepth 200000 in
set_option maxHeartbeats 16000000 in
theorem mmaybe_any {w : World} {P : Pm} {m : Mp} (h : McIz w P m) : Calls Tryz.prog 89 #[.pointer (some ⟨P.gi, 0, none⟩)] w fun e w' => e = .returned (.bool (mayB m)) ∧ Below w.heap.size w w' := by
 obtain ⟨pv, nv, cv, hvv⟩ : ∃ p n c, P.vv = .slice p n c := by
  obtain ⟨_, ⟨e1, _⟩ | ⟨g, cap, cur, e1, _⟩⟩ := h.vo.1
  ·exact ⟨_, _, _, e1⟩
  ·exact ⟨_, _, _, e1⟩
 obtain ⟨IX, hIX⟩ : ∃ x, m.ix = x := ⟨_, rfl⟩
 obtain ⟨TM, hTM⟩ : ∃ x, m.tm = x := ⟨_, rfl⟩
 obtain ⟨MB, hMB⟩ : ∃ x, mayB m = x := ⟨_, rfl⟩
 rw [hMB]
 unfold mayB at hMB
 rw [hIX, hTM] at hMB
 have HKP : Hid (∀ U, Below w.heap.size w U → U.cell? ⟨P.gi, 2, none⟩ = some (.int .i64 IX) ∧ U.cell? ⟨P.gi, 3, none⟩ = some (.int .i64 TM) ∧ U.cell? ⟨P.gi, 4, none⟩ = some (.slice pv nv cv)) := hide fun U hU => ⟨by rw [← hIX]; exact (h.below hU).row.c2, by rw [← hTM]; exact (h.below hU).row.c3, by rw [← hvv]; exact (h.below hU).row.c4⟩
 have HMV : Hid (∀ U, Below w.heap.size w U → Calls Tryz.prog 61 #[.slice pv nv cv] U fun e w' => e = .returned (.bool (okR m.vo)) ∧ Below U.heap.size U w') := hide fun U hU => by
  have h1 := (h.below hU).vo.ns
  rw [hvv] at h1
  exact mvote_any h1
 have HM := hide h
 have HIT := hide (And.intro hIX hTM)
 clear h hvv hIX hTM
 cases H1' : decide ((1099511627776 : Int) < IX)
 case true =>
  have H1 := hide H1'
  have HMB : Hid (MB = false) := hide (by rw [← hMB, H1']; rfl)
  clear H1' hMB
  go_enter Tryz.func89, Tryz.ntmps89
  go_upto_region 1 with fail
  refine wp_region_held_drew (S := (fun U => U.cell? ⟨P.gi, 2, none⟩ = some (.int .i64 IX) ∧ U.cell? ⟨P.gi, 3, none⟩ = some (.int .i64 TM) ∧ U.cell? ⟨P.gi, 4, none⟩ = some (.slice pv nv cv))) (by kernel_rfl) ?_ (fun hHeld => ?_)
  ·(try dsimp only)
   exact HKP.out _ (bdrew w 1)
  refine tkI (i := 0) (oi := ⟨some 5, Op.move (Operand.tmp 0), 97, _, _, none⟩) (v := ?_) rfl (by rfl) ?_ ?_
  rotate_left
  ·intro w hSw
   (try dsimp only at hSw)
   go_simp
   try with_reducible rfl
  try simp only [Act.put, qA, qB, qC]
  refine tkI (i := 1) (oi := ⟨some 6, Op.nilCheck (Operand.tmp 5), 0, _, _, none⟩) (v := ?_) rfl (by rfl) ?_ ?_
  rotate_left
  ·intro w hSw
   (try dsimp only at hSw)
   go_simp
   try with_reducible rfl
  try simp only [Act.put, qA, qB, qC]
  refine tkI (i := 2) (oi := ⟨some 7, Op.fieldAddr 131 (Operand.tmp 6) 2, 0, _, _, none⟩) (v := ?_) rfl (by rfl) ?_ ?_
  rotate_left
  ·intro w hSw
   (try dsimp only at hSw)
   go_simp
   try with_reducible rfl
  try simp only [Act.put, qA, qB, qC]
  refine tkI (i := 3) (oi := ⟨some 8, Op.load 3 (Operand.tmp 7), 3, _, _, none⟩) (v := ?_) rfl (by rfl) ?_ ?_
  rotate_left
  ·intro w hSw
   (try dsimp only at hSw)
   go_simp
   try with_reducible rfl
  try simp only [Act.put, qA, qB, qC]
  refine tkI (i := 4) (oi := ⟨some 9, Op.binOp BinOp.gtr 3 (Operand.tmp 8) (Operand.const (Value.int IntKind.i64 1099511627776)) 3, 4, _, _, none⟩) (v := (.bool true)) rfl (by rfl) ?_ ?_
  ·intro w hSw
   (try dsimp only at hSw)
   go_simp
   first | with_reducible rfl | (have h := H1.out; simpa using h) | (have h := H1.out; simp at h; omega)
  try simp only [Act.put, qA, qB, qC]
  refine tkI (i := 5) (oi := ⟨some 10, Op.move (Operand.tmp 9), 4, _, _, none⟩) (v := (.bool true)) rfl (by rfl) ?_ ?_
  ·intro w hSw
   (try dsimp only at hSw)
   go_simp
   try with_reducible rfl
  try simp only [Act.put, qA, qB, qC]
  refine tkO (i := 6) (oi := ⟨some 11, Op.move (Operand.tmp 0), 97, _, _, some (5, false)⟩) rfl (by rfl) ?_
  try simp only [Act.put, qA, qB, qC]
  refine tkO (i := 7) (oi := ⟨some 12, Op.nilCheck (Operand.tmp 11), 0, _, _, some (5, false)⟩) rfl (by rfl) ?_
  try simp only [Act.put, qA, qB, qC]
  refine tkO (i := 8) (oi := ⟨some 13, Op.fieldAddr 131 (Operand.tmp 12) 3, 0, _, _, some (5, false)⟩) rfl (by rfl) ?_
  try simp only [Act.put, qA, qB, qC]
  refine tkO (i := 9) (oi := ⟨some 14, Op.load 3 (Operand.tmp 13), 3, _, _, some (5, false)⟩) rfl (by rfl) ?_
  try simp only [Act.put, qA, qB, qC]
  refine tkO (i := 10) (oi := ⟨some 15, Op.binOp BinOp.gtr 3 (Operand.tmp 14) (Operand.const (Value.int IntKind.i64 1099511627776)) 3, 4, _, _, some (5, false)⟩) rfl (by rfl) ?_
  try simp only [Act.put, qA, qB, qC]
  refine tkI (i := 11) (oi := ⟨some 16, Op.pick (Operand.tmp 10) (Operand.const (Value.bool true)) (Operand.tmp 15), 4, _, _, none⟩) (v := (.bool true)) rfl (by rfl) ?_ ?_
  ·intro w hSw
   (try dsimp only at hSw)
   go_simp
   try with_reducible rfl
  try simp only [Act.put, qA, qB, qC]
  refine tkI (i := 12) (oi := ⟨some 17, Op.move (Operand.tmp 16), 4, _, _, none⟩) (v := (.bool true)) rfl (by rfl) ?_ ?_
  ·intro w hSw
   (try dsimp only at hSw)
   go_simp
   try with_reducible rfl
  try simp only [Act.put, qA, qB, qC]
  refine tkO (i := 13) (oi := ⟨some 18, Op.move (Operand.tmp 0), 97, _, _, some (12, false)⟩) rfl (by rfl) ?_
  try simp only [Act.put, qA, qB, qC]
  refine tkO (i := 14) (oi := ⟨some 19, Op.nilCheck (Operand.tmp 18), 0, _, _, some (12, false)⟩) rfl (by rfl) ?_
  try simp only [Act.put, qA, qB, qC]
  refine tkO (i := 15) (oi := ⟨some 20, Op.fieldAddr 131 (Operand.tmp 19) 2, 0, _, _, some (12, false)⟩) rfl (by rfl) ?_
  try simp only [Act.put, qA, qB, qC]
  refine tkO (i := 16) (oi := ⟨some 21, Op.load 3 (Operand.tmp 20), 3, _, _, some (12, false)⟩) rfl (by rfl) ?_
  try simp only [Act.put, qA, qB, qC]
  refine tkO (i := 17) (oi := ⟨some 22, Op.binOp BinOp.eql 3 (Operand.tmp 21) (Operand.const (Value.int IntKind.i64 0)) 3, 4, _, _, some (12, false)⟩) rfl (by rfl) ?_
  try simp only [Act.put, qA, qB, qC]
  refine tkO (i := 18) (oi := ⟨some 23, Op.move (Operand.tmp 0), 97, _, _, some (12, false)⟩) rfl (by rfl) ?_
  try simp only [Act.put, qA, qB, qC]
  refine tkO (i := 19) (oi := ⟨some 24, Op.nilCheck (Operand.tmp 23), 0, _, _, some (12, false)⟩) rfl (by rfl) ?_
  try simp only [Act.put, qA, qB, qC]
  refine tkO (i := 20) (oi := ⟨some 25, Op.fieldAddr 131 (Operand.tmp 24) 3, 0, _, _, some (12, false)⟩) rfl (by rfl) ?_
  try simp only [Act.put, qA, qB, qC]
  refine tkO (i := 21) (oi := ⟨some 26, Op.load 3 (Operand.tmp 25), 3, _, _, some (12, false)⟩) rfl (by rfl) ?_
  try simp only [Act.put, qA, qB, qC]
  refine tkO (i := 22) (oi := ⟨some 27, Op.binOp BinOp.eql 3 (Operand.tmp 26) (Operand.const (Value.int IntKind.i64 0)) 3, 4, _, _, some (12, false)⟩) rfl (by rfl) ?_
  try simp only [Act.put, qA, qB, qC]
  refine tkO (i := 23) (oi := ⟨some 28, Op.binOp BinOp.neq 4 (Operand.tmp 22) (Operand.tmp 27) 4, 4, _, _, some (12, false)⟩) rfl (by rfl) ?_
  try simp only [Act.put, qA, qB, qC]
  refine tkI (i := 24) (oi := ⟨some 29, Op.pick (Operand.tmp 17) (Operand.const (Value.bool true)) (Operand.tmp 28), 4, _, _, none⟩) (v := (.bool true)) rfl (by rfl) ?_ ?_
  ·intro w hSw
   (try dsimp only at hSw)
   go_simp
   try with_reducible rfl
  try simp only [Act.put, qA, qB, qC]
  refine tkI (i := 25) (oi := ⟨some 30, Op.move (Operand.tmp 29), 4, _, _, none⟩) (v := (.bool true)) rfl (by rfl) ?_ ?_
  ·intro w hSw
   (try dsimp only at hSw)
   go_simp
   try with_reducible rfl
  try simp only [Act.put, qA, qB, qC]
  refine tkO (i := 26) (oi := ⟨some 31, Op.move (Operand.tmp 0), 97, _, _, some (25, false)⟩) rfl (by rfl) ?_
  try simp only [Act.put, qA, qB, qC]
  refine tkO (i := 27) (oi := ⟨some 32, Op.nilCheck (Operand.tmp 31), 0, _, _, some (25, false)⟩) rfl (by rfl) ?_
  try simp only [Act.put, qA, qB, qC]
  refine tkO (i := 28) (oi := ⟨some 33, Op.fieldAddr 131 (Operand.tmp 32) 4, 0, _, _, some (25, false)⟩) rfl (by rfl) ?_
  try simp only [Act.put, qA, qB, qC]
  refine tkO (i := 29) (oi := ⟨some 34, Op.load 23 (Operand.tmp 33), 23, _, _, some (25, false)⟩) rfl (by rfl) ?_
  try simp only [Act.put, qA, qB, qC]
  refine tkO (i := 30) (oi := ⟨some 35, Op.call { callee := Callee.value (Operand.func 61), args := #[Operand.tmp 34], argTypes := #[23] }, 4, _, _, some (25, false)⟩) rfl (by rfl) ?_
  try simp only [Act.put, qA, qB, qC]
  refine tkO (i := 31) (oi := ⟨some 36, Op.unOp UnOp.not 4 (Operand.tmp 35), 4, _, _, some (25, false)⟩) rfl (by rfl) ?_
  try simp only [Act.put, qA, qB, qC]
  refine tkI (i := 32) (oi := ⟨some 37, Op.pick (Operand.tmp 30) (Operand.const (Value.bool true)) (Operand.tmp 36), 4, _, _, none⟩) (v := ?_) rfl (by rfl) ?_ ?_
  rotate_left
  ·intro w hSw
   (try dsimp only at hSw)
   go_simp
   try with_reducible rfl
  try simp only [Act.put, qA, qB, qC]
  refine wpAnyH_done (by kernel_rfl) ?_ _
  clear hHeld
  go_wp2_with fail
  go_ret
  exact ⟨ret_b HMB.out, bdrew w 1⟩
 case false =>
 cases H2' : decide ((1099511627776 : Int) < TM)
 case true =>
  have H1 := hide H1'
  have H2 := hide H2'
  have HMB : Hid (MB = false) := hide (by rw [← hMB, H1', H2']; rfl)
  clear H1' H2' hMB
  go_enter Tryz.func89, Tryz.ntmps89
  go_upto_region 1 with fail
  refine wp_region_held_drew (S := (fun U => U.cell? ⟨P.gi, 2, none⟩ = some (.int .i64 IX) ∧ U.cell? ⟨P.gi, 3, none⟩ = some (.int .i64 TM) ∧ U.cell? ⟨P.gi, 4, none⟩ = some (.slice pv nv cv))) (by kernel_rfl) ?_ (fun hHeld => ?_)
  ·(try dsimp only)
   exact HKP.out _ (bdrew w 1)
  refine tkI (i := 0) (oi := ⟨some 5, Op.move (Operand.tmp 0), 97, _, _, none⟩) (v := ?_) rfl (by rfl) ?_ ?_
  rotate_left
  ·intro w hSw
   (try dsimp only at hSw)
   go_simp
   try with_reducible rfl
  try simp only [Act.put, qA, qB, qC]
  refine tkI (i := 1) (oi := ⟨some 6, Op.nilCheck (Operand.tmp 5), 0, _, _, none⟩) (v := ?_) rfl (by rfl) ?_ ?_
  rotate_left
  ·intro w hSw
   (try dsimp only at hSw)
   go_simp
   try with_reducible rfl
  try simp only [Act.put, qA, qB, qC]
  refine tkI (i := 2) (oi := ⟨some 7, Op.fieldAddr 131 (Operand.tmp 6) 2, 0, _, _, none⟩) (v := ?_) rfl (by rfl) ?_ ?_
  rotate_left
  ·intro w hSw
   (try dsimp only at hSw)
   go_simp
   try with_reducible rfl
  try simp only [Act.put, qA, qB, qC]
  refine tkI (i := 3) (oi := ⟨some 8, Op.load 3 (Operand.tmp 7), 3, _, _, none⟩) (v := ?_) rfl (by rfl) ?_ ?_
  rotate_left
  ·intro w hSw
   (try dsimp only at hSw)
   go_simp
   try with_reducible rfl
  try simp only [Act.put, qA, qB, qC]
  refine tkI (i := 4) (oi := ⟨some 9, Op.binOp BinOp.gtr 3 (Operand.tmp 8) (Operand.const (Value.int IntKind.i64 1099511627776)) 3, 4, _, _, none⟩) (v := (.bool false)) rfl (by rfl) ?_ ?_
  ·intro w hSw
   (try dsimp only at hSw)
   go_simp
   first | with_reducible rfl | (have h := H1.out; simpa using h) | (have h := H1.out; simp at h; omega)
  try simp only [Act.put, qA, qB, qC]
  refine tkI (i := 5) (oi := ⟨some 10, Op.move (Operand.tmp 9), 4, _, _, none⟩) (v := (.bool false)) rfl (by rfl) ?_ ?_
  ·intro w hSw
   (try dsimp only at hSw)
   go_simp
   try with_reducible rfl
  try simp only [Act.put, qA, qB, qC]
  refine tkI (i := 6) (oi := ⟨some 11, Op.move (Operand.tmp 0), 97, _, _, some (5, false)⟩) (v := ?_) rfl (by rfl) ?_ ?_
  rotate_left
  ·intro w hSw
   (try dsimp only at hSw)
   go_simp
   try with_reducible rfl
  try simp only [Act.put, qA, qB, qC]
  refine tkI (i := 7) (oi := ⟨some 12, Op.nilCheck (Operand.tmp 11), 0, _, _, some (5, false)⟩) (v := ?_) rfl (by rfl) ?_ ?_
  rotate_left
  ·intro w hSw
   (try dsimp only at hSw)
   go_simp
   try with_reducible rfl
  try simp only [Act.put, qA, qB, qC]
  refine tkI (i := 8) (oi := ⟨some 13, Op.fieldAddr 131 (Operand.tmp 12) 3, 0, _, _, some (5, false)⟩) (v := ?_) rfl (by rfl) ?_ ?_
  rotate_left
  ·intro w hSw
   (try dsimp only at hSw)
   go_simp
   try with_reducible rfl
  try simp only [Act.put, qA, qB, qC]
  refine tkI (i := 9) (oi := ⟨some 14, Op.load 3 (Operand.tmp 13), 3, _, _, some (5, false)⟩) (v := ?_) rfl (by rfl) ?_ ?_
  rotate_left
  ·intro w hSw
   (try dsimp only at hSw)
   go_simp
   try with_reducible rfl
  try simp only [Act.put, qA, qB, qC]
  refine tkI (i := 10) (oi := ⟨some 15, Op.binOp BinOp.gtr 3 (Operand.tmp 14) (Operand.const (Value.int IntKind.i64 1099511627776)) 3, 4, _, _, some (5, false)⟩) (v := (.bool true)) rfl (by rfl) ?_ ?_
  ·intro w hSw
   (try dsimp only at hSw)
   go_simp
   first | with_reducible rfl | (have h := H2.out; simpa using h) | (have h := H2.out; simp at h; omega)
  try simp only [Act.put, qA, qB, qC]
  refine tkI (i := 11) (oi := ⟨some 16, Op.pick (Operand.tmp 10) (Operand.const (Value.bool true)) (Operand.tmp 15), 4, _, _, none⟩) (v := (.bool true)) rfl (by rfl) ?_ ?_
  ·intro w hSw
   (try dsimp only at hSw)
   go_simp
   try with_reducible rfl
  try simp only [Act.put, qA, qB, qC]
  refine tkI (i := 12) (oi := ⟨some 17, Op.move (Operand.tmp 16), 4, _, _, none⟩) (v := (.bool true)) rfl (by rfl) ?_ ?_
  ·intro w hSw
   (try dsimp only at hSw)
   go_simp
   try with_reducible rfl
  try simp only [Act.put, qA, qB, qC]
  refine tkO (i := 13) (oi := ⟨some 18, Op.move (Operand.tmp 0), 97, _, _, some (12, false)⟩) rfl (by rfl) ?_
  try simp only [Act.put, qA, qB, qC]
  refine tkO (i := 14) (oi := ⟨some 19, Op.nilCheck (Operand.tmp 18), 0, _, _, some (12, false)⟩) rfl (by rfl) ?_
  try simp only [Act.put, qA, qB, qC]
  refine tkO (i := 15) (oi := ⟨some 20, Op.fieldAddr 131 (Operand.tmp 19) 2, 0, _, _, some (12, false)⟩) rfl (by rfl) ?_
  try simp only [Act.put, qA, qB, qC]
  refine tkO (i := 16) (oi := ⟨some 21, Op.load 3 (Operand.tmp 20), 3, _, _, some (12, false)⟩) rfl (by rfl) ?_
  try simp only [Act.put, qA, qB, qC]
  refine tkO (i := 17) (oi := ⟨some 22, Op.binOp BinOp.eql 3 (Operand.tmp 21) (Operand.const (Value.int IntKind.i64 0)) 3, 4, _, _, some (12, false)⟩) rfl (by rfl) ?_
  try simp only [Act.put, qA, qB, qC]
  refine tkO (i := 18) (oi := ⟨some 23, Op.move (Operand.tmp 0), 97, _, _, some (12, false)⟩) rfl (by rfl) ?_
  try simp only [Act.put, qA, qB, qC]
  refine tkO (i := 19) (oi := ⟨some 24, Op.nilCheck (Operand.tmp 23), 0, _, _, some (12, false)⟩) rfl (by rfl) ?_
  try simp only [Act.put, qA, qB, qC]
  refine tkO (i := 20) (oi := ⟨some 25, Op.fieldAddr 131 (Operand.tmp 24) 3, 0, _, _, some (12, false)⟩) rfl (by rfl) ?_
  try simp only [Act.put, qA, qB, qC]
  refine tkO (i := 21) (oi := ⟨some 26, Op.load 3 (Operand.tmp 25), 3, _, _, some (12, false)⟩) rfl (by rfl) ?_
  try simp only [Act.put, qA, qB, qC]
  refine tkO (i := 22) (oi := ⟨some 27, Op.binOp BinOp.eql 3 (Operand.tmp 26) (Operand.const (Value.int IntKind.i64 0)) 3, 4, _, _, some (12, false)⟩) rfl (by rfl) ?_
  try simp only [Act.put, qA, qB, qC]
  refine tkO (i := 23) (oi := ⟨some 28, Op.binOp BinOp.neq 4 (Operand.tmp 22) (Operand.tmp 27) 4, 4, _, _, some (12, false)⟩) rfl (by rfl) ?_
  try simp only [Act.put, qA, qB, qC]
  refine tkI (i := 24) (oi := ⟨some 29, Op.pick (Operand.tmp 17) (Operand.const (Value.bool true)) (Operand.tmp 28), 4, _, _, none⟩) (v := (.bool true)) rfl (by rfl) ?_ ?_
  ·intro w hSw
   (try dsimp only at hSw)
   go_simp
   try with_reducible rfl
  try simp only [Act.put, qA, qB, qC]
  refine tkI (i := 25) (oi := ⟨some 30, Op.move (Operand.tmp 29), 4, _, _, none⟩) (v := (.bool true)) rfl (by rfl) ?_ ?_
  ·intro w hSw
   (try dsimp only at hSw)
   go_simp
   try with_reducible rfl
  try simp only [Act.put, qA, qB, qC]
  refine tkO (i := 26) (oi := ⟨some 31, Op.move (Operand.tmp 0), 97, _, _, some (25, false)⟩) rfl (by rfl) ?_
  try simp only [Act.put, qA, qB, qC]
  refine tkO (i := 27) (oi := ⟨some 32, Op.nilCheck (Operand.tmp 31), 0, _, _, some (25, false)⟩) rfl (by rfl) ?_
  try simp only [Act.put, qA, qB, qC]
  refine tkO (i := 28) (oi := ⟨some 33, Op.fieldAddr 131 (Operand.tmp 32) 4, 0, _, _, some (25, false)⟩) rfl (by rfl) ?_
  try simp only [Act.put, qA, qB, qC]
  refine tkO (i := 29) (oi := ⟨some 34, Op.load 23 (Operand.tmp 33), 23, _, _, some (25, false)⟩) rfl (by rfl) ?_
  try simp only [Act.put, qA, qB, qC]
  refine tkO (i := 30) (oi := ⟨some 35, Op.call { callee := Callee.value (Operand.func 61), args := #[Operand.tmp 34], argTypes := #[23] }, 4, _, _, some (25, false)⟩) rfl (by rfl) ?_
  try simp only [Act.put, qA, qB, qC]
  refine tkO (i := 31) (oi := ⟨some 36, Op.unOp UnOp.not 4 (Operand.tmp 35), 4, _, _, some (25, false)⟩) rfl (by rfl) ?_
  try simp only [Act.put, qA, qB, qC]
  refine tkI (i := 32) (oi := ⟨some 37, Op.pick (Operand.tmp 30) (Operand.const (Value.bool true)) (Operand.tmp 36), 4, _, _, none⟩) (v := ?_) rfl (by rfl) ?_ ?_
  rotate_left
  ·intro w hSw
   (try dsimp only at hSw)
   go_simp
   try with_reducible rfl
  try simp only [Act.put, qA, qB, qC]
  refine wpAnyH_done (by kernel_rfl) ?_ _
  clear hHeld
  go_wp2_with fail
  go_ret
  exact ⟨ret_b HMB.out, bdrew w 1⟩
 case false =>
 cases H3' : ((IX == 0) != (TM == 0))
 case true =>
  have H1 := hide H1'
  have H2 := hide H2'
  have H3 := hide H3'
  have HMB : Hid (MB = false) := hide (by rw [← hMB, H1', H2', H3']; rfl)
  clear H1' H2' H3' hMB
  go_enter Tryz.func89, Tryz.ntmps89
  go_upto_region 1 with fail
  refine wp_region_held_drew (S := (fun U => U.cell? ⟨P.gi, 2, none⟩ = some (.int .i64 IX) ∧ U.cell? ⟨P.gi, 3, none⟩ = some (.int .i64 TM) ∧ U.cell? ⟨P.gi, 4, none⟩ = some (.slice pv nv cv))) (by kernel_rfl) ?_ (fun hHeld => ?_)
  ·(try dsimp only)
   exact HKP.out _ (bdrew w 1)
  refine tkI (i := 0) (oi := ⟨some 5, Op.move (Operand.tmp 0), 97, _, _, none⟩) (v := ?_) rfl (by rfl) ?_ ?_
  rotate_left
  ·intro w hSw
   (try dsimp only at hSw)
   go_simp
   try with_reducible rfl
  try simp only [Act.put, qA, qB, qC]
  refine tkI (i := 1) (oi := ⟨some 6, Op.nilCheck (Operand.tmp 5), 0, _, _, none⟩) (v := ?_) rfl (by rfl) ?_ ?_
  rotate_left
  ·intro w hSw
   (try dsimp only at hSw)
   go_simp
   try with_reducible rfl
  try simp only [Act.put, qA, qB, qC]
  refine tkI (i := 2) (oi := ⟨some 7, Op.fieldAddr 131 (Operand.tmp 6) 2, 0, _, _, none⟩) (v := ?_) rfl (by rfl) ?_ ?_
  rotate_left
  ·intro w hSw
   (try dsimp only at hSw)
   go_simp
   try with_reducible rfl
  try simp only [Act.put, qA, qB, qC]
  refine tkI (i := 3) (oi := ⟨some 8, Op.load 3 (Operand.tmp 7), 3, _, _, none⟩) (v := ?_) rfl (by rfl) ?_ ?_
  rotate_left
  ·intro w hSw
   (try dsimp only at hSw)
   go_simp
   try with_reducible rfl
  try simp only [Act.put, qA, qB, qC]
  refine tkI (i := 4) (oi := ⟨some 9, Op.binOp BinOp.gtr 3 (Operand.tmp 8) (Operand.const (Value.int IntKind.i64 1099511627776)) 3, 4, _, _, none⟩) (v := (.bool false)) rfl (by rfl) ?_ ?_
  ·intro w hSw
   (try dsimp only at hSw)
   go_simp
   first | with_reducible rfl | (have h := H1.out; simpa using h) | (have h := H1.out; simp at h; omega)
  try simp only [Act.put, qA, qB, qC]
  refine tkI (i := 5) (oi := ⟨some 10, Op.move (Operand.tmp 9), 4, _, _, none⟩) (v := (.bool false)) rfl (by rfl) ?_ ?_
  ·intro w hSw
   (try dsimp only at hSw)
   go_simp
   try with_reducible rfl
  try simp only [Act.put, qA, qB, qC]
  refine tkI (i := 6) (oi := ⟨some 11, Op.move (Operand.tmp 0), 97, _, _, some (5, false)⟩) (v := ?_) rfl (by rfl) ?_ ?_
  rotate_left
  ·intro w hSw
   (try dsimp only at hSw)
   go_simp
   try with_reducible rfl
  try simp only [Act.put, qA, qB, qC]
  refine tkI (i := 7) (oi := ⟨some 12, Op.nilCheck (Operand.tmp 11), 0, _, _, some (5, false)⟩) (v := ?_) rfl (by rfl) ?_ ?_
  rotate_left
  ·intro w hSw
   (try dsimp only at hSw)
   go_simp
   try with_reducible rfl
  try simp only [Act.put, qA, qB, qC]
  refine tkI (i := 8) (oi := ⟨some 13, Op.fieldAddr 131 (Operand.tmp 12) 3, 0, _, _, some (5, false)⟩) (v := ?_) rfl (by rfl) ?_ ?_
  rotate_left
  ·intro w hSw
   (try dsimp only at hSw)
   go_simp
   try with_reducible rfl
  try simp only [Act.put, qA, qB, qC]
  refine tkI (i := 9) (oi := ⟨some 14, Op.load 3 (Operand.tmp 13), 3, _, _, some (5, false)⟩) (v := ?_) rfl (by rfl) ?_ ?_
  rotate_left
  ·intro w hSw
   (try dsimp only at hSw)
   go_simp
   try with_reducible rfl
  try simp only [Act.put, qA, qB, qC]
  refine tkI (i := 10) (oi := ⟨some 15, Op.binOp BinOp.gtr 3 (Operand.tmp 14) (Operand.const (Value.int IntKind.i64 1099511627776)) 3, 4, _, _, some (5, false)⟩) (v := (.bool false)) rfl (by rfl) ?_ ?_
  ·intro w hSw
   (try dsimp only at hSw)
   go_simp
   first | with_reducible rfl | (have h := H2.out; simpa using h) | (have h := H2.out; simp at h; omega)
  try simp only [Act.put, qA, qB, qC]
  refine tkI (i := 11) (oi := ⟨some 16, Op.pick (Operand.tmp 10) (Operand.const (Value.bool true)) (Operand.tmp 15), 4, _, _, none⟩) (v := (.bool false)) rfl (by rfl) ?_ ?_
  ·intro w hSw
   (try dsimp only at hSw)
   go_simp
   try with_reducible rfl
  try simp only [Act.put, qA, qB, qC]
  refine tkI (i := 12) (oi := ⟨some 17, Op.move (Operand.tmp 16), 4, _, _, none⟩) (v := (.bool false)) rfl (by rfl) ?_ ?_
  ·intro w hSw
   (try dsimp only at hSw)
   go_simp
   try with_reducible rfl
  try simp only [Act.put, qA, qB, qC]
  refine tkI (i := 13) (oi := ⟨some 18, Op.move (Operand.tmp 0), 97, _, _, some (12, false)⟩) (v := ?_) rfl (by rfl) ?_ ?_
  rotate_left
  ·intro w hSw
   (try dsimp only at hSw)
   go_simp
   try with_reducible rfl
  try simp only [Act.put, qA, qB, qC]
  refine tkI (i := 14) (oi := ⟨some 19, Op.nilCheck (Operand.tmp 18), 0, _, _, some (12, false)⟩) (v := ?_) rfl (by rfl) ?_ ?_
  rotate_left
  ·intro w hSw
   (try dsimp only at hSw)
   go_simp
   try with_reducible rfl
  try simp only [Act.put, qA, qB, qC]
  refine tkI (i := 15) (oi := ⟨some 20, Op.fieldAddr 131 (Operand.tmp 19) 2, 0, _, _, some (12, false)⟩) (v := ?_) rfl (by rfl) ?_ ?_
  rotate_left
  ·intro w hSw
   (try dsimp only at hSw)
   go_simp
   try with_reducible rfl
  try simp only [Act.put, qA, qB, qC]
  refine tkI (i := 16) (oi := ⟨some 21, Op.load 3 (Operand.tmp 20), 3, _, _, some (12, false)⟩) (v := ?_) rfl (by rfl) ?_ ?_
  rotate_left
  ·intro w hSw
   (try dsimp only at hSw)
   go_simp
   try with_reducible rfl
  try simp only [Act.put, qA, qB, qC]
  refine tkI (i := 17) (oi := ⟨some 22, Op.binOp BinOp.eql 3 (Operand.tmp 21) (Operand.const (Value.int IntKind.i64 0)) 3, 4, _, _, some (12, false)⟩) (v := ?_) rfl (by rfl) ?_ ?_
  rotate_left
  ·intro w hSw
   (try dsimp only at hSw)
   go_simp
   try with_reducible rfl
  try simp only [Act.put, qA, qB, qC]
  refine tkI (i := 18) (oi := ⟨some 23, Op.move (Operand.tmp 0), 97, _, _, some (12, false)⟩) (v := ?_) rfl (by rfl) ?_ ?_
  rotate_left
  ·intro w hSw
   (try dsimp only at hSw)
   go_simp
   try with_reducible rfl
  try simp only [Act.put, qA, qB, qC]
  refine tkI (i := 19) (oi := ⟨some 24, Op.nilCheck (Operand.tmp 23), 0, _, _, some (12, false)⟩) (v := ?_) rfl (by rfl) ?_ ?_
  rotate_left
  ·intro w hSw
   (try dsimp only at hSw)
   go_simp
   try with_reducible rfl
  try simp only [Act.put, qA, qB, qC]
  refine tkI (i := 20) (oi := ⟨some 25, Op.fieldAddr 131 (Operand.tmp 24) 3, 0, _, _, some (12, false)⟩) (v := ?_) rfl (by rfl) ?_ ?_
  rotate_left
  ·intro w hSw
   (try dsimp only at hSw)
   go_simp
   try with_reducible rfl
  try simp only [Act.put, qA, qB, qC]
  refine tkI (i := 21) (oi := ⟨some 26, Op.load 3 (Operand.tmp 25), 3, _, _, some (12, false)⟩) (v := ?_) rfl (by rfl) ?_ ?_
  rotate_left
  ·intro w hSw
   (try dsimp only at hSw)
   go_simp
   try with_reducible rfl
  try simp only [Act.put, qA, qB, qC]
  refine tkI (i := 22) (oi := ⟨some 27, Op.binOp BinOp.eql 3 (Operand.tmp 26) (Operand.const (Value.int IntKind.i64 0)) 3, 4, _, _, some (12, false)⟩) (v := ?_) rfl (by rfl) ?_ ?_
  rotate_left
  ·intro w hSw
   (try dsimp only at hSw)
   go_simp
   try with_reducible rfl
  try simp only [Act.put, qA, qB, qC]
  refine tkI (i := 23) (oi := ⟨some 28, Op.binOp BinOp.neq 4 (Operand.tmp 22) (Operand.tmp 27) 4, 4, _, _, some (12, false)⟩) (v := (.bool true)) rfl (by rfl) ?_ ?_
  ·intro w hSw
   (try dsimp only at hSw)
   go_simp
   first | with_reducible rfl | (have h := H3.out; simpa using h) | (have h := H3.out; simp at h; omega)
  try simp only [Act.put, qA, qB, qC]
  refine tkI (i := 24) (oi := ⟨some 29, Op.pick (Operand.tmp 17) (Operand.const (Value.bool true)) (Operand.tmp 28), 4, _, _, none⟩) (v := (.bool true)) rfl (by rfl) ?_ ?_
  ·intro w hSw
   (try dsimp only at hSw)
   go_simp
   try with_reducible rfl
  try simp only [Act.put, qA, qB, qC]
  refine tkI (i := 25) (oi := ⟨some 30, Op.move (Operand.tmp 29), 4, _, _, none⟩) (v := (.bool true)) rfl (by rfl) ?_ ?_
  ·intro w hSw
   (try dsimp only at hSw)
   go_simp
   try with_reducible rfl
  try simp only [Act.put, qA, qB, qC]
  refine tkO (i := 26) (oi := ⟨some 31, Op.move (Operand.tmp 0), 97, _, _, some (25, false)⟩) rfl (by rfl) ?_
  try simp only [Act.put, qA, qB, qC]
  refine tkO (i := 27) (oi := ⟨some 32, Op.nilCheck (Operand.tmp 31), 0, _, _, some (25, false)⟩) rfl (by rfl) ?_
  try simp only [Act.put, qA, qB, qC]
  refine tkO (i := 28) (oi := ⟨some 33, Op.fieldAddr 131 (Operand.tmp 32) 4, 0, _, _, some (25, false)⟩) rfl (by rfl) ?_
  try simp only [Act.put, qA, qB, qC]
  refine tkO (i := 29) (oi := ⟨some 34, Op.load 23 (Operand.tmp 33), 23, _, _, some (25, false)⟩) rfl (by rfl) ?_
  try simp only [Act.put, qA, qB, qC]
  refine tkO (i := 30) (oi := ⟨some 35, Op.call { callee := Callee.value (Operand.func 61), args := #[Operand.tmp 34], argTypes := #[23] }, 4, _, _, some (25, false)⟩) rfl (by rfl) ?_
  try simp only [Act.put, qA, qB, qC]
  refine tkO (i := 31) (oi := ⟨some 36, Op.unOp UnOp.not 4 (Operand.tmp 35), 4, _, _, some (25, false)⟩) rfl (by rfl) ?_
  try simp only [Act.put, qA, qB, qC]
  refine tkI (i := 32) (oi := ⟨some 37, Op.pick (Operand.tmp 30) (Operand.const (Value.bool true)) (Operand.tmp 36), 4, _, _, none⟩) (v := ?_) rfl (by rfl) ?_ ?_
  rotate_left
  ·intro w hSw
   (try dsimp only at hSw)
   go_simp
   try with_reducible rfl
  try simp only [Act.put, qA, qB, qC]
  refine wpAnyH_done (by kernel_rfl) ?_ _
  clear hHeld
  go_wp2_with fail
  go_ret
  exact ⟨ret_b HMB.out, bdrew w 1⟩
 case false =>
 have H1 := hide H1'
 have H2 := hide H2'
 have H3 := hide H3'
 have HMB : Hid (MB = (okR m.vo && seatsIn IX m.L)) := hide (by rw [← hMB, H1', H2', H3']; rfl)
 clear H1' H2' H3' hMB
 cases hok : okR m.vo
 case false =>
  rw [hok] at HMB HMV
  go_enter Tryz.func89, Tryz.ntmps89
  go_upto_region 1 with fail
  refine wp_region_held_drew (S := (fun U => U.cell? ⟨P.gi, 2, none⟩ = some (.int .i64 IX) ∧ U.cell? ⟨P.gi, 3, none⟩ = some (.int .i64 TM) ∧ U.cell? ⟨P.gi, 4, none⟩ = some (.slice pv nv cv))) (by kernel_rfl) ?_ (fun hHeld => ?_)
  ·(try dsimp only)
   exact HKP.out _ (bdrew w 1)
  refine tkI (i := 0) (oi := ⟨some 5, Op.move (Operand.tmp 0), 97, _, _, none⟩) (v := ?_) rfl (by rfl) ?_ ?_
  rotate_left
  ·intro w hSw
   (try dsimp only at hSw)
   go_simp
   try with_reducible rfl
  try simp only [Act.put, qA, qB, qC]
  refine tkI (i := 1) (oi := ⟨some 6, Op.nilCheck (Operand.tmp 5), 0, _, _, none⟩) (v := ?_) rfl (by rfl) ?_ ?_
  rotate_left
  ·intro w hSw
   (try dsimp only at hSw)
   go_simp
   try with_reducible rfl
  try simp only [Act.put, qA, qB, qC]
  refine tkI (i := 2) (oi := ⟨some 7, Op.fieldAddr 131 (Operand.tmp 6) 2, 0, _, _, none⟩) (v := ?_) rfl (by rfl) ?_ ?_
  rotate_left
  ·intro w hSw
   (try dsimp only at hSw)
   go_simp
   try with_reducible rfl
  try simp only [Act.put, qA, qB, qC]
  refine tkI (i := 3) (oi := ⟨some 8, Op.load 3 (Operand.tmp 7), 3, _, _, none⟩) (v := ?_) rfl (by rfl) ?_ ?_
  rotate_left
  ·intro w hSw
   (try dsimp only at hSw)
   go_simp
   try with_reducible rfl
  try simp only [Act.put, qA, qB, qC]
  refine tkI (i := 4) (oi := ⟨some 9, Op.binOp BinOp.gtr 3 (Operand.tmp 8) (Operand.const (Value.int IntKind.i64 1099511627776)) 3, 4, _, _, none⟩) (v := (.bool false)) rfl (by rfl) ?_ ?_
  ·intro w hSw
   (try dsimp only at hSw)
   go_simp
   first | with_reducible rfl | (have h := H1.out; simpa using h) | (have h := H1.out; simp at h; omega)
  try simp only [Act.put, qA, qB, qC]
  refine tkI (i := 5) (oi := ⟨some 10, Op.move (Operand.tmp 9), 4, _, _, none⟩) (v := (.bool false)) rfl (by rfl) ?_ ?_
  ·intro w hSw
   (try dsimp only at hSw)
   go_simp
   try with_reducible rfl
  try simp only [Act.put, qA, qB, qC]
  refine tkI (i := 6) (oi := ⟨some 11, Op.move (Operand.tmp 0), 97, _, _, some (5, false)⟩) (v := ?_) rfl (by rfl) ?_ ?_
  rotate_left
  ·intro w hSw
   (try dsimp only at hSw)
   go_simp
   try with_reducible rfl
  try simp only [Act.put, qA, qB, qC]
  refine tkI (i := 7) (oi := ⟨some 12, Op.nilCheck (Operand.tmp 11), 0, _, _, some (5, false)⟩) (v := ?_) rfl (by rfl) ?_ ?_
  rotate_left
  ·intro w hSw
   (try dsimp only at hSw)
   go_simp
   try with_reducible rfl
  try simp only [Act.put, qA, qB, qC]
  refine tkI (i := 8) (oi := ⟨some 13, Op.fieldAddr 131 (Operand.tmp 12) 3, 0, _, _, some (5, false)⟩) (v := ?_) rfl (by rfl) ?_ ?_
  rotate_left
  ·intro w hSw
   (try dsimp only at hSw)
   go_simp
   try with_reducible rfl
  try simp only [Act.put, qA, qB, qC]
  refine tkI (i := 9) (oi := ⟨some 14, Op.load 3 (Operand.tmp 13), 3, _, _, some (5, false)⟩) (v := ?_) rfl (by rfl) ?_ ?_
  rotate_left
  ·intro w hSw
   (try dsimp only at hSw)
   go_simp
   try with_reducible rfl
  try simp only [Act.put, qA, qB, qC]
  refine tkI (i := 10) (oi := ⟨some 15, Op.binOp BinOp.gtr 3 (Operand.tmp 14) (Operand.const (Value.int IntKind.i64 1099511627776)) 3, 4, _, _, some (5, false)⟩) (v := (.bool false)) rfl (by rfl) ?_ ?_
  ·intro w hSw
   (try dsimp only at hSw)
   go_simp
   first | with_reducible rfl | (have h := H2.out; simpa using h) | (have h := H2.out; simp at h; omega)
  try simp only [Act.put, qA, qB, qC]
  refine tkI (i := 11) (oi := ⟨some 16, Op.pick (Operand.tmp 10) (Operand.const (Value.bool true)) (Operand.tmp 15), 4, _, _, none⟩) (v := (.bool false)) rfl (by rfl) ?_ ?_
  ·intro w hSw
   (try dsimp only at hSw)
   go_simp
   try with_reducible rfl
  try simp only [Act.put, qA, qB, qC]
  refine tkI (i := 12) (oi := ⟨some 17, Op.move (Operand.tmp 16), 4, _, _, none⟩) (v := (.bool false)) rfl (by rfl) ?_ ?_
  ·intro w hSw
   (try dsimp only at hSw)
   go_simp
   try with_reducible rfl
  try simp only [Act.put, qA, qB, qC]
  refine tkI (i := 13) (oi := ⟨some 18, Op.move (Operand.tmp 0), 97, _, _, some (12, false)⟩) (v := ?_) rfl (by rfl) ?_ ?_
  rotate_left
  ·intro w hSw
   (try dsimp only at hSw)
   go_simp
   try with_reducible rfl
  try simp only [Act.put, qA, qB, qC]
  refine tkI (i := 14) (oi := ⟨some 19, Op.nilCheck (Operand.tmp 18), 0, _, _, some (12, false)⟩) (v := ?_) rfl (by rfl) ?_ ?_
  rotate_left
  ·intro w hSw
   (try dsimp only at hSw)
   go_simp
   try with_reducible rfl
  try simp only [Act.put, qA, qB, qC]
  refine tkI (i := 15) (oi := ⟨some 20, Op.fieldAddr 131 (Operand.tmp 19) 2, 0, _, _, some (12, false)⟩) (v := ?_) rfl (by rfl) ?_ ?_
  rotate_left
  ·intro w hSw
   (try dsimp only at hSw)
   go_simp
   try with_reducible rfl
  try simp only [Act.put, qA, qB, qC]
  refine tkI (i := 16) (oi := ⟨some 21, Op.load 3 (Operand.tmp 20), 3, _, _, some (12, false)⟩) (v := ?_) rfl (by rfl) ?_ ?_
  rotate_left
  ·intro w hSw
   (try dsimp only at hSw)
   go_simp
   try with_reducible rfl
  try simp only [Act.put, qA, qB, qC]
  refine tkI (i := 17) (oi := ⟨some 22, Op.binOp BinOp.eql 3 (Operand.tmp 21) (Operand.const (Value.int IntKind.i64 0)) 3, 4, _, _, some (12, false)⟩) (v := ?_) rfl (by rfl) ?_ ?_
  rotate_left
  ·intro w hSw
   (try dsimp only at hSw)
   go_simp
   try with_reducible rfl
  try simp only [Act.put, qA, qB, qC]
  refine tkI (i := 18) (oi := ⟨some 23, Op.move (Operand.tmp 0), 97, _, _, some (12, false)⟩) (v := ?_) rfl (by rfl) ?_ ?_
  rotate_left
  ·intro w hSw
   (try dsimp only at hSw)
   go_simp
   try with_reducible rfl
  try simp only [Act.put, qA, qB, qC]
  refine tkI (i := 19) (oi := ⟨some 24, Op.nilCheck (Operand.tmp 23), 0, _, _, some (12, false)⟩) (v := ?_) rfl (by rfl) ?_ ?_
  rotate_left
  ·intro w hSw
   (try dsimp only at hSw)
   go_simp
   try with_reducible rfl
  try simp only [Act.put, qA, qB, qC]
  refine tkI (i := 20) (oi := ⟨some 25, Op.fieldAddr 131 (Operand.tmp 24) 3, 0, _, _, some (12, false)⟩) (v := ?_) rfl (by rfl) ?_ ?_
  rotate_left
  ·intro w hSw
   (try dsimp only at hSw)
   go_simp
   try with_reducible rfl
  try simp only [Act.put, qA, qB, qC]
  refine tkI (i := 21) (oi := ⟨some 26, Op.load 3 (Operand.tmp 25), 3, _, _, some (12, false)⟩) (v := ?_) rfl (by rfl) ?_ ?_
  rotate_left
  ·intro w hSw
   (try dsimp only at hSw)
   go_simp
   try with_reducible rfl
  try simp only [Act.put, qA, qB, qC]
  refine tkI (i := 22) (oi := ⟨some 27, Op.binOp BinOp.eql 3 (Operand.tmp 26) (Operand.const (Value.int IntKind.i64 0)) 3, 4, _, _, some (12, false)⟩) (v := ?_) rfl (by rfl) ?_ ?_
  rotate_left
  ·intro w hSw
   (try dsimp only at hSw)
   go_simp
   try with_reducible rfl
  try simp only [Act.put, qA, qB, qC]
  refine tkI (i := 23) (oi := ⟨some 28, Op.binOp BinOp.neq 4 (Operand.tmp 22) (Operand.tmp 27) 4, 4, _, _, some (12, false)⟩) (v := (.bool false)) rfl (by rfl) ?_ ?_
  ·intro w hSw
   (try dsimp only at hSw)
   go_simp
   first | with_reducible rfl | (have h := H3.out; simpa using h) | (have h := H3.out; simp at h; omega)
  try simp only [Act.put, qA, qB, qC]
  refine tkI (i := 24) (oi := ⟨some 29, Op.pick (Operand.tmp 17) (Operand.const (Value.bool true)) (Operand.tmp 28), 4, _, _, none⟩) (v := (.bool false)) rfl (by rfl) ?_ ?_
  ·intro w hSw
   (try dsimp only at hSw)
   go_simp
   try with_reducible rfl
  try simp only [Act.put, qA, qB, qC]
  refine tkI (i := 25) (oi := ⟨some 30, Op.move (Operand.tmp 29), 4, _, _, none⟩) (v := (.bool false)) rfl (by rfl) ?_ ?_
  ·intro w hSw
   (try dsimp only at hSw)
   go_simp
   try with_reducible rfl
  try simp only [Act.put, qA, qB, qC]
  refine tkI (i := 26) (oi := ⟨some 31, Op.move (Operand.tmp 0), 97, _, _, some (25, false)⟩) (v := ?_) rfl (by rfl) ?_ ?_
  rotate_left
  ·intro w hSw
   (try dsimp only at hSw)
   go_simp
   try with_reducible rfl
  try simp only [Act.put, qA, qB, qC]
  refine tkI (i := 27) (oi := ⟨some 32, Op.nilCheck (Operand.tmp 31), 0, _, _, some (25, false)⟩) (v := ?_) rfl (by rfl) ?_ ?_
  rotate_left
  ·intro w hSw
   (try dsimp only at hSw)
   go_simp
   try with_reducible rfl
  try simp only [Act.put, qA, qB, qC]
  refine tkI (i := 28) (oi := ⟨some 33, Op.fieldAddr 131 (Operand.tmp 32) 4, 0, _, _, some (25, false)⟩) (v := ?_) rfl (by rfl) ?_ ?_
  rotate_left
  ·intro w hSw
   (try dsimp only at hSw)
   go_simp
   try with_reducible rfl
  try simp only [Act.put, qA, qB, qC]
  refine tkI (i := 29) (oi := ⟨some 34, Op.load 23 (Operand.tmp 33), 23, _, _, some (25, false)⟩) (v := ?_) rfl (by rfl) ?_ ?_
  rotate_left
  ·intro w hSw
   (try dsimp only at hSw)
   go_simp
   try with_reducible rfl
  try simp only [Act.put, qA, qB, qC]
  refine wpAnyH_ready (rs := [30]) (by kernel_rfl) (by simp) ?_
  refine AllReadyH.cons (o := ⟨some 35, Op.call { callee := Callee.value (Operand.func 61), args := #[Operand.tmp 34], argTypes := #[23] }, 4, _, _, some (25, false)⟩) rfl (fun K hK => ?_) AllReadyH.nil
  go_simp
  go_at_call 61
  refine (HMV.out _ (bdrew w 1)).mono ?_
  rintro e1 W1 ⟨rfl, hb1⟩
  first
   | refine hK.out _ _ ?_ (fun hHeld => ?_)
   | (go_wp2_with fail; refine hK.out _ _ ?_ (fun hHeld => ?_))
  ·exact (HKP.out _ ((bdrew w 1).trans hb1))
  clear hK K
  try simp only [Act.put, qA, qB, qC]
  refine tkI (i := 31) (oi := ⟨some 36, Op.unOp UnOp.not 4 (Operand.tmp 35), 4, _, _, some (25, false)⟩) (v := ?_) rfl (by rfl) ?_ ?_
  rotate_left
  ·intro w hSw
   (try dsimp only at hSw)
   go_simp
   try with_reducible rfl
  try simp only [Act.put, qA, qB, qC]
  refine tkI (i := 32) (oi := ⟨some 37, Op.pick (Operand.tmp 30) (Operand.const (Value.bool true)) (Operand.tmp 36), 4, _, _, none⟩) (v := ?_) rfl (by rfl) ?_ ?_
  rotate_left
  ·intro w hSw
   (try dsimp only at hSw)
   go_simp
   try with_reducible rfl
  try simp only [Act.put, qA, qB, qC]
  refine wpAnyH_done (by kernel_rfl) ?_ _
  clear hHeld
  go_wp2_with fail
  go_ret
  exact ⟨ret_b (HMB.out.trans rfl), (bdrew w 1).trans hb1⟩
 case true =>
  rw [hok] at HMB HMV
  go_enter Tryz.func89, Tryz.ntmps89
  go_upto_region 1 with fail
  refine wp_region_held_drew (S := (fun U => U.cell? ⟨P.gi, 2, none⟩ = some (.int .i64 IX) ∧ U.cell? ⟨P.gi, 3, none⟩ = some (.int .i64 TM) ∧ U.cell? ⟨P.gi, 4, none⟩ = some (.slice pv nv cv))) (by kernel_rfl) ?_ (fun hHeld => ?_)
  ·(try dsimp only)
   exact HKP.out _ (bdrew w 1)
  refine tkI (i := 0) (oi := ⟨some 5, Op.move (Operand.tmp 0), 97, _, _, none⟩) (v := ?_) rfl (by rfl) ?_ ?_
  rotate_left
  ·intro w hSw
   (try dsimp only at hSw)
   go_simp
   try with_reducible rfl
  try simp only [Act.put, qA, qB, qC]
  refine tkI (i := 1) (oi := ⟨some 6, Op.nilCheck (Operand.tmp 5), 0, _, _, none⟩) (v := ?_) rfl (by rfl) ?_ ?_
  rotate_left
  ·intro w hSw
   (try dsimp only at hSw)
   go_simp
   try with_reducible rfl
  try simp only [Act.put, qA, qB, qC]
  refine tkI (i := 2) (oi := ⟨some 7, Op.fieldAddr 131 (Operand.tmp 6) 2, 0, _, _, none⟩) (v := ?_) rfl (by rfl) ?_ ?_
  rotate_left
  ·intro w hSw
   (try dsimp only at hSw)
   go_simp
   try with_reducible rfl
  try simp only [Act.put, qA, qB, qC]
  refine tkI (i := 3) (oi := ⟨some 8, Op.load 3 (Operand.tmp 7), 3, _, _, none⟩) (v := ?_) rfl (by rfl) ?_ ?_
  rotate_left
  ·intro w hSw
   (try dsimp only at hSw)
   go_simp
   try with_reducible rfl
  try simp only [Act.put, qA, qB, qC]
  refine tkI (i := 4) (oi := ⟨some 9, Op.binOp BinOp.gtr 3 (Operand.tmp 8) (Operand.const (Value.int IntKind.i64 1099511627776)) 3, 4, _, _, none⟩) (v := (.bool false)) rfl (by rfl) ?_ ?_
  ·intro w hSw
   (try dsimp only at hSw)
   go_simp
   first | with_reducible rfl | (have h := H1.out; simpa using h) | (have h := H1.out; simp at h; omega)
  try simp only [Act.put, qA, qB, qC]
  refine tkI (i := 5) (oi := ⟨some 10, Op.move (Operand.tmp 9), 4, _, _, none⟩) (v := (.bool false)) rfl (by rfl) ?_ ?_
  ·intro w hSw
   (try dsimp only at hSw)
   go_simp
   try with_reducible rfl
  try simp only [Act.put, qA, qB, qC]
  refine tkI (i := 6) (oi := ⟨some 11, Op.move (Operand.tmp 0), 97, _, _, some (5, false)⟩) (v := ?_) rfl (by rfl) ?_ ?_
  rotate_left
  ·intro w hSw
   (try dsimp only at hSw)
   go_simp
   try with_reducible rfl
  try simp only [Act.put, qA, qB, qC]
  refine tkI (i := 7) (oi := ⟨some 12, Op.nilCheck (Operand.tmp 11), 0, _, _, some (5, false)⟩) (v := ?_) rfl (by rfl) ?_ ?_
  rotate_left
  ·intro w hSw
   (try dsimp only at hSw)
   go_simp
   try with_reducible rfl
  try simp only [Act.put, qA, qB, qC]
  refine tkI (i := 8) (oi := ⟨some 13, Op.fieldAddr 131 (Operand.tmp 12) 3, 0, _, _, some (5, false)⟩) (v := ?_) rfl (by rfl) ?_ ?_
  rotate_left
  ·intro w hSw
   (try dsimp only at hSw)
   go_simp
   try with_reducible rfl
  try simp only [Act.put, qA, qB, qC]
  refine tkI (i := 9) (oi := ⟨some 14, Op.load 3 (Operand.tmp 13), 3, _, _, some (5, false)⟩) (v := ?_) rfl (by rfl) ?_ ?_
  rotate_left
  ·intro w hSw
   (try dsimp only at hSw)
   go_simp
   try with_reducible rfl
  try simp only [Act.put, qA, qB, qC]
  refine tkI (i := 10) (oi := ⟨some 15, Op.binOp BinOp.gtr 3 (Operand.tmp 14) (Operand.const (Value.int IntKind.i64 1099511627776)) 3, 4, _, _, some (5, false)⟩) (v := (.bool false)) rfl (by rfl) ?_ ?_
  ·intro w hSw
   (try dsimp only at hSw)
   go_simp
   first | with_reducible rfl | (have h := H2.out; simpa using h) | (have h := H2.out; simp at h; omega)
  try simp only [Act.put, qA, qB, qC]
  refine tkI (i := 11) (oi := ⟨some 16, Op.pick (Operand.tmp 10) (Operand.const (Value.bool true)) (Operand.tmp 15), 4, _, _, none⟩) (v := (.bool false)) rfl (by rfl) ?_ ?_
  ·intro w hSw
   (try dsimp only at hSw)
   go_simp
   try with_reducible rfl
  try simp only [Act.put, qA, qB, qC]
  refine tkI (i := 12) (oi := ⟨some 17, Op.move (Operand.tmp 16), 4, _, _, none⟩) (v := (.bool false)) rfl (by rfl) ?_ ?_
  ·intro w hSw
   (try dsimp only at hSw)
   go_simp
   try with_reducible rfl
  try simp only [Act.put, qA, qB, qC]
  refine tkI (i := 13) (oi := ⟨some 18, Op.move (Operand.tmp 0), 97, _, _, some (12, false)⟩) (v := ?_) rfl (by rfl) ?_ ?_
  rotate_left
  ·intro w hSw
   (try dsimp only at hSw)
   go_simp
   try with_reducible rfl
  try simp only [Act.put, qA, qB, qC]
  refine tkI (i := 14) (oi := ⟨some 19, Op.nilCheck (Operand.tmp 18), 0, _, _, some (12, false)⟩) (v := ?_) rfl (by rfl) ?_ ?_
  rotate_left
  ·intro w hSw
   (try dsimp only at hSw)
   go_simp
   try with_reducible rfl
  try simp only [Act.put, qA, qB, qC]
  refine tkI (i := 15) (oi := ⟨some 20, Op.fieldAddr 131 (Operand.tmp 19) 2, 0, _, _, some (12, false)⟩) (v := ?_) rfl (by rfl) ?_ ?_
  rotate_left
  ·intro w hSw
   (try dsimp only at hSw)
   go_simp
   try with_reducible rfl
  try simp only [Act.put, qA, qB, qC]
  refine tkI (i := 16) (oi := ⟨some 21, Op.load 3 (Operand.tmp 20), 3, _, _, some (12, false)⟩) (v := ?_) rfl (by rfl) ?_ ?_
  rotate_left
  ·intro w hSw
   (try dsimp only at hSw)
   go_simp
   try with_reducible rfl
  try simp only [Act.put, qA, qB, qC]
  refine tkI (i := 17) (oi := ⟨some 22, Op.binOp BinOp.eql 3 (Operand.tmp 21) (Operand.const (Value.int IntKind.i64 0)) 3, 4, _, _, some (12, false)⟩) (v := ?_) rfl (by rfl) ?_ ?_
  rotate_left
  ·intro w hSw
   (try dsimp only at hSw)
   go_simp
   try with_reducible rfl
  try simp only [Act.put, qA, qB, qC]
  refine tkI (i := 18) (oi := ⟨some 23, Op.move (Operand.tmp 0), 97, _, _, some (12, false)⟩) (v := ?_) rfl (by rfl) ?_ ?_
  rotate_left
  ·intro w hSw
   (try dsimp only at hSw)
   go_simp
   try with_reducible rfl
  try simp only [Act.put, qA, qB, qC]
  refine tkI (i := 19) (oi := ⟨some 24, Op.nilCheck (Operand.tmp 23), 0, _, _, some (12, false)⟩) (v := ?_) rfl (by rfl) ?_ ?_
  rotate_left
  ·intro w hSw
   (try dsimp only at hSw)
   go_simp
   try with_reducible rfl
  try simp only [Act.put, qA, qB, qC]
  refine tkI (i := 20) (oi := ⟨some 25, Op.fieldAddr 131 (Operand.tmp 24) 3, 0, _, _, some (12, false)⟩) (v := ?_) rfl (by rfl) ?_ ?_
  rotate_left
  ·intro w hSw
   (try dsimp only at hSw)
   go_simp
   try with_reducible rfl
  try simp only [Act.put, qA, qB, qC]
  refine tkI (i := 21) (oi := ⟨some 26, Op.load 3 (Operand.tmp 25), 3, _, _, some (12, false)⟩) (v := ?_) rfl (by rfl) ?_ ?_
  rotate_left
  ·intro w hSw
   (try dsimp only at hSw)
   go_simp
   try with_reducible rfl
  try simp only [Act.put, qA, qB, qC]
  refine tkI (i := 22) (oi := ⟨some 27, Op.binOp BinOp.eql 3 (Operand.tmp 26) (Operand.const (Value.int IntKind.i64 0)) 3, 4, _, _, some (12, false)⟩) (v := ?_) rfl (by rfl) ?_ ?_
  rotate_left
  ·intro w hSw
   (try dsimp only at hSw)
   go_simp
   try with_reducible rfl
  try simp only [Act.put, qA, qB, qC]
  refine tkI (i := 23) (oi := ⟨some 28, Op.binOp BinOp.neq 4 (Operand.tmp 22) (Operand.tmp 27) 4, 4, _, _, some (12, false)⟩) (v := (.bool false)) rfl (by rfl) ?_ ?_
  ·intro w hSw
   (try dsimp only at hSw)
   go_simp
   first | with_reducible rfl | (have h := H3.out; simpa using h) | (have h := H3.out; simp at h; omega)
  try simp only [Act.put, qA, qB, qC]
  refine tkI (i := 24) (oi := ⟨some 29, Op.pick (Operand.tmp 17) (Operand.const (Value.bool true)) (Operand.tmp 28), 4, _, _, none⟩) (v := (.bool false)) rfl (by rfl) ?_ ?_
  ·intro w hSw
   (try dsimp only at hSw)
   go_simp
   try with_reducible rfl
  try simp only [Act.put, qA, qB, qC]
  refine tkI (i := 25) (oi := ⟨some 30, Op.move (Operand.tmp 29), 4, _, _, none⟩) (v := (.bool false)) rfl (by rfl) ?_ ?_
  ·intro w hSw
   (try dsimp only at hSw)
   go_simp
   try with_reducible rfl
  try simp only [Act.put, qA, qB, qC]
  refine tkI (i := 26) (oi := ⟨some 31, Op.move (Operand.tmp 0), 97, _, _, some (25, false)⟩) (v := ?_) rfl (by rfl) ?_ ?_
  rotate_left
  ·intro w hSw
   (try dsimp only at hSw)
   go_simp
   try with_reducible rfl
  try simp only [Act.put, qA, qB, qC]
  refine tkI (i := 27) (oi := ⟨some 32, Op.nilCheck (Operand.tmp 31), 0, _, _, some (25, false)⟩) (v := ?_) rfl (by rfl) ?_ ?_
  rotate_left
  ·intro w hSw
   (try dsimp only at hSw)
   go_simp
   try with_reducible rfl
  try simp only [Act.put, qA, qB, qC]
  refine tkI (i := 28) (oi := ⟨some 33, Op.fieldAddr 131 (Operand.tmp 32) 4, 0, _, _, some (25, false)⟩) (v := ?_) rfl (by rfl) ?_ ?_
  rotate_left
  ·intro w hSw
   (try dsimp only at hSw)
   go_simp
   try with_reducible rfl
  try simp only [Act.put, qA, qB, qC]
  refine tkI (i := 29) (oi := ⟨some 34, Op.load 23 (Operand.tmp 33), 23, _, _, some (25, false)⟩) (v := ?_) rfl (by rfl) ?_ ?_
  rotate_left
  ·intro w hSw
   (try dsimp only at hSw)
   go_simp
   try with_reducible rfl
  try simp only [Act.put, qA, qB, qC]
  refine wpAnyH_ready (rs := [30]) (by kernel_rfl) (by simp) ?_
  refine AllReadyH.cons (o := ⟨some 35, Op.call { callee := Callee.value (Operand.func 61), args := #[Operand.tmp 34], argTypes := #[23] }, 4, _, _, some (25, false)⟩) rfl (fun K hK => ?_) AllReadyH.nil
  go_simp
  go_at_call 61
  refine (HMV.out _ (bdrew w 1)).mono ?_
  rintro e1 W1 ⟨rfl, hb1⟩
  first
   | refine hK.out _ _ ?_ (fun hHeld => ?_)
   | (go_wp2_with fail; refine hK.out _ _ ?_ (fun hHeld => ?_))
  ·exact (HKP.out _ ((bdrew w 1).trans hb1))
  clear hK K
  try simp only [Act.put, qA, qB, qC]
  refine tkI (i := 31) (oi := ⟨some 36, Op.unOp UnOp.not 4 (Operand.tmp 35), 4, _, _, some (25, false)⟩) (v := ?_) rfl (by rfl) ?_ ?_
  rotate_left
  ·intro w hSw
   (try dsimp only at hSw)
   go_simp
   try with_reducible rfl
  try simp only [Act.put, qA, qB, qC]
  refine tkI (i := 32) (oi := ⟨some 37, Op.pick (Operand.tmp 30) (Operand.const (Value.bool true)) (Operand.tmp 36), 4, _, _, none⟩) (v := ?_) rfl (by rfl) ?_ ?_
  rotate_left
  ·intro w hSw
   (try dsimp only at hSw)
   go_simp
   try with_reducible rfl
  try simp only [Act.put, qA, qB, qC]
  refine wpAnyH_done (by kernel_rfl) ?_ _
  clear hHeld
  have HB1 : Hid (Below w.heap.size w W1) := hide ((bdrew w 1).trans hb1)
  clear hb1
  have z1 := (HM.out.below HB1.out).row.c1
  go_wp2_with fail
  refine (ses_seats_any (HM.out.below HB1.out).tb).mono ?_
  rintro e3 w3 ⟨v3, rfl, ho3, hb3⟩
  obtain ⟨p3, n3, c3, rfl⟩ := ho3.sts.sl
  have HN3 := hide ho3.sts.len.1
  have HO3 := hide ho3
  have HB3 : Hid (Below w.heap.size w w3) := hide (HB1.out.trans (hb3.mono HB1.out.size))
  have hn9 : (n3 : Int) ≤ 8 := by have := HM.out.tb.ok.len; have := HN3.out; omega
  clear ho3 hb3 z1
  go_wp2_with fail
  go_loopw [44] (fun i wr => ∃ k : Nat, k ≤ n3 ∧ i = .int .i64 k ∧ Hid (Below w3.heap.size w3 wr ∧ seatsIn IX (m.L.take k) = true)) (fun i _ => n3 - (intOf i).toNat)
  case atStart => exact ⟨0, by omega, rfl, hide ⟨Below.refl _ _, rfl⟩⟩
  case round =>
   obtain ⟨k, hk, rfl, HR⟩ := hrel
   have HBR : Hid (Below w.heap.size w wr) := hide (HB3.out.trans (HR.out.1.mono HB3.out.size))
   by_cases hlt : k < n3
   ·obtain ⟨y, hy⟩ : ∃ y, m.L[k]? = some y := ⟨_, List.getElem?_eq_getElem (by have := HN3.out; omega)⟩
    obtain ⟨gd, o, rfl, hc⟩ := HO3.out.sts.at_ (by omega)
    have hd := (hc k y hy).below HR.out.1
    have d0 := hd.c0
    have d1 := hd.c1
    have d2 := hd.c2
    have d3 := hd.c3
    have d4 := hd.c4
    have d5 := hd.c5
    have d6 := hd.c6
    have d7 := hd.c7
    have d8 := hd.c8
    have d9 := hd.c9
    have d10 := hd.c10
    have HY := hide hy
    have HTK := hide (seatsIn_take (ix := IX) hy)
    have HNO := hide (seatsIn_no (ix := IX) hy)
    clear hd hc hy
    obtain ⟨s, q, a, ⟨e1, e2, e3, e4, e5, e6, e7, e8⟩⟩ := y
    dsimp only at *
    go_upto_region 6 with fail
    obtain ⟨Y, hY⟩ : ∃ Y, wr.alloc (.cells #[.int .i64 s, .int .i64 q, .int .i64 a, .int .i64 e1, .int .i64 e2, .int .i64 e3, .int .i64 e4, .int .i64 e5, .int .i64 e6, .int .i64 e7, .int .i64 e8] 84) = Y := ⟨_, rfl⟩
    have hbY : Below wr.heap.size wr Y := by rw [← hY]; exact (Below.refl _ _).alloc (Nat.le_refl _) _
    have hcY : ∀ i v, #[Value.int .i64 s, .int .i64 q, .int .i64 a, .int .i64 e1, .int .i64 e2, .int .i64 e3, .int .i64 e4, .int .i64 e5, .int .i64 e6, .int .i64 e7, .int .i64 e8][i]? = some v → Y.cell? ⟨wr.heap.size, i, none⟩ = some v := fun i v hi => by rw [← hY, World.cell?_alloc_new]; exact hi
    have y0 : Y.cell? ⟨wr.heap.size, 0, none⟩ = some (.int .i64 s) := hcY 0 _ rfl
    have y2 : Y.cell? ⟨wr.heap.size, 2, none⟩ = some (.int .i64 a) := hcY 2 _ rfl
    rw [hY]
    have x2 := (HKP.out _ (HBR.out.trans (hbY.mono HBR.out.size))).1
    have HBY := hide (And.intro (HR.out.1.trans (hbY.mono HR.out.1.size)) (HBR.out.trans (hbY.mono HBR.out.size)))
    clear hY hcY hbY d0 d1 d2 d3 d4 d5 d6 d7 d8 d9 d10
    cases hs : decide (IX < s)
    ·cases ha : decide (IX < a)
     ·have HST : Hid (seatsIn IX (m.L.take (k + 1)) = true) := hide (by rw [HTK.out, HR.out.2, hs, ha]; rfl)
      go_quiet (fail)
      go_wp2_with fail
      go_roundw
      case rel => exact ⟨k + 1, by omega, by go_num, hide ⟨HBY.out.1.trans ((bdrew _ _).mono HBY.out.1.size), HST.out⟩⟩
      case measure => simp [intOf]; omega
     ·have HF : Hid (MB = false) := hide (by rw [HMB.out, HNO.out (by rw [ha]; simp)]; rfl)
      go_quiet (fail)
      go_wp2_with fail
      go_ret
      exact ⟨ret_b HF.out, HBY.out.2.trans ((bdrew _ _).mono HBY.out.2.size)⟩
    ·have HF : Hid (MB = false) := hide (by rw [HMB.out, HNO.out (by rw [hs]; simp)]; rfl)
     go_quiet (fail)
     go_wp2_with fail
     go_ret
     exact ⟨ret_b HF.out, HBY.out.2.trans ((bdrew _ _).mono HBY.out.2.size)⟩
   ·have e : m.L.take k = m.L := List.take_of_length_le (by have := HN3.out; omega)
    have HF : Hid (MB = true) := hide (by rw [HMB.out, ← e, HR.out.2]; rfl)
    go_wp2_with fail
    go_ret
    exact ⟨ret_b HF.out, HBR.out⟩
end Go.Proofs.YtionbmlicmibgaaGreatDoor
