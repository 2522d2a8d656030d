import Derived.Test.YtionbmlicmibgaaGreatDoorMcHvy
import Derived.Test.YtionbmlicmibgaaGreatDoorMcArg
namespace Go.Proofs.YtionbmlicmibgaaGreatDoor
set_option linter.unusedVariables false
set_option linter.unusedSimpArgs false
open Go.RowKit
def ShP (D : List Dm) (e : Ending) : Prop := ∃ q, e = .returned (.bool q) ∧ (q = true → D.length ≤ 80 ∧ ∀ d ∈ D, SmS d.sp)
set_option maxRecDepth 200000 in
set_option maxHeartbeats 8000000 in
theorem mshort_any {w : World} {v : Value} {D : List Dm} (h : Dms w v D) : Calls Tryz.prog 27 #[v] w fun e w' => ShP D e ∧ Below w.heap.size w w' := by
 have HD := hide (fun W (hW : Below w.heap.size w W) => h.below hW)
 obtain ⟨p, c, rfl, hlc, hcm, hx⟩ := h
 obtain ⟨n, hn⟩ : ∃ n, D.length = n := ⟨_, rfl⟩
 have hn9 : (n : Int) ≤ 9223372036854775807 := by unfold maxLen at hcm; omega
 rw [hn] at HD ⊢
 have HN := hide hn
 clear hlc hcm hx hn
 go_enter Tryz.func27, Tryz.ntmps27
 go_wp2_with fail
 go_loopw [3, 4] (fun b i wr => ∃ (j : Nat) (y : Int), j ≤ n ∧ i = .int .i64 j ∧ b = .int .i64 y ∧ 0 ≤ y ∧ y ≤ 131112 ∧ Hid (Below w.heap.size w wr ∧ (y ≤ 32768 → ∀ d ∈ D.take j, SmS d.sp))) (fun _ i _ => n - (intOf i).toNat)
 case atStart => exact ⟨0, 0, by omega, rfl, rfl, by omega, by omega, hide ⟨Below.refl _ _, fun _ d hd => by simp at hd⟩⟩
 case round =>
  obtain ⟨j, y, hj, rfl, rfl, hy0, hy1, HR⟩ := hrel
  by_cases hlt : j < n
  ·have e1 : decide ((j : Int) < (n : Int)) = true := decide_eq_true (by omega)
   by_cases hj8 : (j : Int) ≤ 80
   ·have e2 : decide ((j : Int) ≤ 80) = true := decide_eq_true hj8
    by_cases hy : y ≤ 32768
    ·have e3 : decide (y ≤ 32768) = true := decide_eq_true hy
     obtain ⟨d, hd⟩ : ∃ y, D[j]? = some y := ⟨_, List.getElem?_eq_getElem (by have := HN.out; omega)⟩
     obtain ⟨p', c', hpe, _, _, hms⟩ := HD.out wr HR.out.1
     injection hpe with hpe1 hpe2 hpe3
     subst hpe1 hpe3
     clear hpe2
     obtain ⟨g, o, rfl, hin, hc⟩ := hms j d hd
     have HDJ := hide hd
     have hnn := hin.by_.lenMax
     obtain ⟨op, k, se, sq, a, p1, n1, d1, p2, n2, d2, tm, ei, et, p3, n3, d3, sp, vo, by_⟩ := d
     dsimp only at hin hc hnn
     have HIN := hide hin
     have HIM : Hid (n2 ≤ maxLen) := hide (Nat.le_trans hin.vo.len.2.1 hin.vo.len.2.2)
     have HKP : Hid (∀ U, Below wr.heap.size wr U → U.cell? ⟨g, o + j * 11 + 1, none⟩ = some (.int .i64 k) ∧ U.cell? ⟨g, o + j * 11 + 2, none⟩ = some (.int .i64 se) ∧ U.cell? ⟨g, o + j * 11 + 3, none⟩ = some (.int .i64 sq) ∧ U.cell? ⟨g, o + j * 11 + 4, none⟩ = some (.int .i64 a) ∧ U.cell? ⟨g, o + j * 11 + 5, none⟩ = some (.slice p1 n1 d1) ∧ U.cell? ⟨g, o + j * 11 + 6, none⟩ = some (.slice p2 n2 d2) ∧ U.cell? ⟨g, o + j * 11 + 10, none⟩ = some (.slice p3 n3 d3)) := hide fun U hU => (by
      have hc' : ∀ i x, (dmC ⟨op, k, se, sq, a, p1, n1, d1, p2, n2, d2, tm, ei, et, p3, n3, d3, sp, vo, by_⟩)[i]? = some x → U.cell? ⟨g, o + j * 11 + i, none⟩ = some x := fun i x hi => (hU.cell (lt_of_cell (hc i x hi))).trans (hc i x hi)
      exact ⟨hc' 1 _ rfl, hc' 2 _ rfl, hc' 3 _ rfl, hc' 4 _ rfl, hc' 5 _ rfl, hc' 6 _ rfl, hc' 10 _ rfl⟩)
     have hn30 : 0 ≤ min (n3 : Int) 32768 ∧ min (n3 : Int) 32768 ≤ 32768 := by omega
     clear hd hms hc hin
     go_upto_region 5 with fail
     refine wp_region_held_drew (S := (fun U => U.cell? ⟨g, o + j * 11 + 1, none⟩ = some (.int .i64 k) ∧ U.cell? ⟨g, o + j * 11 + 2, none⟩ = some (.int .i64 se) ∧ U.cell? ⟨g, o + j * 11 + 3, none⟩ = some (.int .i64 sq) ∧ U.cell? ⟨g, o + j * 11 + 4, none⟩ = some (.int .i64 a) ∧ U.cell? ⟨g, o + j * 11 + 5, none⟩ = some (.slice p1 n1 d1) ∧ U.cell? ⟨g, o + j * 11 + 6, none⟩ = some (.slice p2 n2 d2) ∧ U.cell? ⟨g, o + j * 11 + 10, none⟩ = some (.slice p3 n3 d3))) (by kernel_rfl) ?_ (fun hHeld => ?_)
     ·(try dsimp only)
      exact HKP.out _ (bdrew wr 1)
     refine tkI (i := 0) (oi := ⟨some 19, Op.move (Operand.tmp 3), 3, _, _, none⟩) (v := ?_) rfl (by rfl) ?_ ?_
     rotate_left
     ·intro w hSw
      (try dsimp only at hSw)
      go_simp
      try with_reducible rfl
     try simp only [Act.put, qA, qB, qC]
     refine tkI (i := 1) (oi := ⟨some 20, Op.move (Operand.tmp 0), 45, _, _, none⟩) (v := ?_) rfl (by rfl) ?_ ?_
     rotate_left
     ·intro w hSw
      (try dsimp only at hSw)
      go_simp
      try with_reducible rfl
     try simp only [Act.put, qA, qB, qC]
     refine tkI (i := 2) (oi := ⟨some 21, Op.move (Operand.tmp 4), 3, _, _, none⟩) (v := ?_) rfl (by rfl) ?_ ?_
     rotate_left
     ·intro w hSw
      (try dsimp only at hSw)
      go_simp
      try with_reducible rfl
     try simp only [Act.put, qA, qB, qC]
     refine tkI (i := 3) (oi := ⟨some 22, Op.indexAddr 45 (Operand.tmp 20) (Operand.tmp 21), 0, _, _, none⟩) (v := ?_) rfl (by rfl) ?_ ?_
     rotate_left
     ·intro w hSw
      (try dsimp only at hSw)
      go_simp
      try with_reducible rfl
     try simp only [Act.put, qA, qB, qC]
     refine tkI (i := 4) (oi := ⟨some 23, Op.fieldAddr 57 (Operand.tmp 22) 1, 0, _, _, none⟩) (v := ?_) rfl (by rfl) ?_ ?_
     rotate_left
     ·intro w hSw
      (try dsimp only at hSw)
      go_simp
      try with_reducible rfl
     try simp only [Act.put, qA, qB, qC]
     refine tkI (i := 5) (oi := ⟨some 24, Op.load 25 (Operand.tmp 23), 25, _, _, none⟩) (v := ?_) rfl (by rfl) ?_ ?_
     rotate_left
     ·intro w hSw
      (try dsimp only at hSw)
      go_simp
      try with_reducible rfl
     try simp only [Act.put, qA, qB, qC]
     refine tkI (i := 7) (oi := ⟨some 26, Op.move (Operand.tmp 0), 45, _, _, none⟩) (v := ?_) rfl (by rfl) ?_ ?_
     rotate_left
     ·intro w hSw
      (try dsimp only at hSw)
      go_simp
      try with_reducible rfl
     try simp only [Act.put, qA, qB, qC]
     refine tkI (i := 8) (oi := ⟨some 27, Op.move (Operand.tmp 4), 3, _, _, none⟩) (v := ?_) rfl (by rfl) ?_ ?_
     rotate_left
     ·intro w hSw
      (try dsimp only at hSw)
      go_simp
      try with_reducible rfl
     try simp only [Act.put, qA, qB, qC]
     refine tkI (i := 9) (oi := ⟨some 28, Op.indexAddr 45 (Operand.tmp 26) (Operand.tmp 27), 0, _, _, none⟩) (v := ?_) rfl (by rfl) ?_ ?_
     rotate_left
     ·intro w hSw
      (try dsimp only at hSw)
      go_simp
      try with_reducible rfl
     try simp only [Act.put, qA, qB, qC]
     refine tkI (i := 10) (oi := ⟨some 29, Op.fieldAddr 57 (Operand.tmp 28) 3, 0, _, _, none⟩) (v := ?_) rfl (by rfl) ?_ ?_
     rotate_left
     ·intro w hSw
      (try dsimp only at hSw)
      go_simp
      try with_reducible rfl
     try simp only [Act.put, qA, qB, qC]
     refine tkI (i := 11) (oi := ⟨some 30, Op.fieldAddr 55 (Operand.tmp 29) 2, 0, _, _, none⟩) (v := ?_) rfl (by rfl) ?_ ?_
     rotate_left
     ·intro w hSw
      (try dsimp only at hSw)
      go_simp
      try with_reducible rfl
     try simp only [Act.put, qA, qB, qC]
     refine tkI (i := 12) (oi := ⟨some 31, Op.load 32 (Operand.tmp 30), 32, _, _, none⟩) (v := ?_) rfl (by rfl) ?_ ?_
     rotate_left
     ·intro w hSw
      (try dsimp only at hSw)
      go_simp
      try with_reducible rfl
     try simp only [Act.put, qA, qB, qC]
     refine tkI (i := 13) (oi := ⟨some 32, Op.call { callee := Callee.builtin Builtin.len, args := #[Operand.tmp 31], argTypes := #[32] }, 3, _, _, none⟩) (v := ?_) rfl (by rfl) ?_ ?_
     rotate_left
     ·intro w hSw
      (try dsimp only at hSw)
      go_simp
      try with_reducible rfl
     try simp only [Act.put, qA, qB, qC]
     refine tkI (i := 14) (oi := ⟨some 33, Op.call { callee := Callee.builtin Builtin.min, args := #[Operand.tmp 32, Operand.const (Value.int IntKind.i64 32768)], argTypes := #[3, 3] }, 3, _, _, none⟩) (v := ?_) rfl (by rfl) ?_ ?_
     rotate_left
     ·intro w hSw
      (try dsimp only at hSw)
      go_simp
      try with_reducible rfl
     try simp only [Act.put, qA, qB, qC]
     refine wpAnyH_ready (rs := [6]) (by kernel_rfl) (by simp) ?_
     refine AllReadyH.cons (o := ⟨some 25, Op.call { callee := Callee.value (Operand.func 14), args := #[Operand.tmp 24], argTypes := #[25] }, 3, _, _, none⟩) rfl (fun K hK => ?_) ?_
     ·go_simp
      go_at_call 14
      refine (mheavy_any (HIN.out.sp.below (bdrew wr 1)) HIM.out HIN.out.nm).mono ?_
      rintro e6 W6 ⟨⟨x, rfl, hx0, hx1, hsm⟩, hb6⟩
      have HSM := hide hsm
      have HB6 : Hid (Below wr.heap.size wr W6) := hide ((bdrew wr 1).trans hb6)
      clear hsm hb6
      first
       | refine hK.out _ _ ?_ (fun hHeld => ?_)
       | (go_wp2_with fail; refine hK.out _ _ ?_ (fun hHeld => ?_))
      ·(try dsimp only)
       exact HKP.out _ HB6.out
      clear hK K
      try simp only [Act.put, qA, qB, qC]
      refine tkI (i := 15) (oi := ⟨some 34, Op.binOp BinOp.add 3 (Operand.tmp 25) (Operand.tmp 33) 3, 3, _, _, none⟩) (v := ?_) rfl (by rfl) ?_ ?_
      rotate_left
      ·intro w hSw
       (try dsimp only at hSw)
       go_simp
       try with_reducible rfl
      try simp only [Act.put, qA, qB, qC]
      refine tkI (i := 16) (oi := ⟨some 35, Op.binOp BinOp.add 3 (Operand.tmp 19) (Operand.tmp 34) 3, 3, _, _, none⟩) (v := ?_) rfl (by rfl) ?_ ?_
      rotate_left
      ·intro w hSw
       (try dsimp only at hSw)
       go_simp
       try with_reducible rfl
      try simp only [Act.put, qA, qB, qC]
      refine tkI (i := 17) (oi := ⟨some 3, Op.assign (Operand.tmp 35), 3, _, _, none⟩) (v := ?_) rfl (by rfl) ?_ ?_
      rotate_left
      ·intro w hSw
       (try dsimp only at hSw)
       go_simp
       try with_reducible rfl
      try simp only [Act.put, qA, qB, qC]
      refine wpAnyH_done (by kernel_rfl) ?_ _
      clear hHeld
      have w1 : IntKind.i64.wrap (x + min (n3 : Int) 32768) = x + min (n3 : Int) 32768 := IntWalk.i64_in _ (by omega)
      have w2 : IntKind.i64.wrap (y + (x + min (n3 : Int) 32768)) = y + (x + min (n3 : Int) 32768) := IntWalk.i64_in _ (by omega)
      have HT : Hid (y + (x + min (n3 : Int) 32768) ≤ 32768 → ∀ d ∈ D.take (j + 1), SmS d.sp) := hide (fun hh e he => by
       rw [List.take_add_one, HDJ.out, List.mem_append] at he
       rcases he with he | he
       ·exact HR.out.2 (by omega) e he
       ·simp at he
        subst he
        exact HSM.out (by omega))
      try rw [w1, w2]
      go_wp2_with fail
      go_roundw
      case rel => exact ⟨j + 1, y + (x + min (n3 : Int) 32768), by omega, by go_num, rfl, by omega, by omega, hide ⟨HR.out.1.trans (HB6.out.mono HR.out.1.size), HT.out⟩⟩
      case measure => simp [intOf]; omega
     exact AllReadyH.nil
    ·have e3 : decide (y ≤ 32768) = false := decide_eq_false hy
     by_cases hn8 : (n : Int) ≤ 80
     ·have e4 : decide ((n : Int) ≤ 80) = true := decide_eq_true hn8
      go_wp2_with fail
      go_ret
      exact ⟨⟨false, rfl, fun h => by cases h⟩, HR.out.1⟩
     ·have e4 : decide ((n : Int) ≤ 80) = false := decide_eq_false hn8
      go_wp2_with fail
      go_ret
      exact ⟨⟨false, rfl, fun h => by cases h⟩, HR.out.1⟩
   ·have e2 : decide ((j : Int) ≤ 80) = false := decide_eq_false hj8
    have e4 : decide ((n : Int) ≤ 80) = false := decide_eq_false (by omega)
    go_wp2_with fail
    go_ret
    exact ⟨⟨false, rfl, fun h => by cases h⟩, HR.out.1⟩
  ·have e1 : decide ((j : Int) < (n : Int)) = false := decide_eq_false (by omega)
   have HF : Hid (y ≤ 32768 → ∀ d ∈ D, SmS d.sp) := hide (fun h => by
    have h1 := HR.out.2 h
    rwa [List.take_of_length_le (by have := HN.out; omega)] at h1)
   by_cases hn8 : (n : Int) ≤ 80
   ·have e4 : decide ((n : Int) ≤ 80) = true := decide_eq_true hn8
    by_cases hy : y ≤ 32768
    ·have e3 : decide (y ≤ 32768) = true := decide_eq_true hy
     go_wp2_with fail
     go_ret
     exact ⟨⟨true, rfl, fun _ => ⟨by have := HN.out; omega, HF.out hy⟩⟩, HR.out.1⟩
    ·have e3 : decide (y ≤ 32768) = false := decide_eq_false hy
     go_wp2_with fail
     go_ret
     exact ⟨⟨false, rfl, fun h => by cases h⟩, HR.out.1⟩
   ·have e4 : decide ((n : Int) ≤ 80) = false := decide_eq_false hn8
    go_wp2_with fail
    go_ret
    exact ⟨⟨false, rfl, fun h => by cases h⟩, HR.out.1⟩
end Go.Proofs.YtionbmlicmibgaaGreatDoor
