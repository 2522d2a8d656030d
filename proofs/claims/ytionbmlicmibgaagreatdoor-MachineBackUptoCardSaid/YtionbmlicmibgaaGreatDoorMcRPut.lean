import Derived.Test.YtionbmlicmibgaaGreatDoorMcRChk
import Derived.Test.YtionbmlicmibgaaGreatDoorMcPut2
import Derived.Test.YtionbmlicmibgaaGreatDoorS11p
namespace Go.Proofs.YtionbmlicmibgaaGreatDoor
set_option linter.unusedVariables false
set_option linter.unusedSimpArgs false
open Go.RowKit
set_option maxRecDepth 200000 in
set_option maxHeartbeats 4000000 in
theorem rputNo_any {w : World} {vs vv : Value} {c : Cm} (h : CmAt w vs vv c) (hc : c.ok = false) : Calls Tryz.prog 19 #[cmV c vs vv] w (PutP w c) := by
 obtain ⟨p, n, d, rfl⟩ := h.sp.sl
 obtain ⟨q, m, f, rfl⟩ := h.vo.sl
 obtain ⟨k, se, sq, a, sp, vo⟩ := c
 have hb0 := (Below.refl w.heap.size w).alloc (Nat.le_refl _) (.cells #[.int .i64 k, .int .i64 se, .int .i64 sq, .int .i64 a, .slice p n d, .slice q m f] 25)
 have HA := hide (rcheck_any (h.below hb0))
 have HB := hide hb0
 obtain ⟨z0, z1, z2, z3, z4, z5⟩ := BoxC.new w k se sq a (.slice p n d) (.slice q m f)
 unfold ChkC at HA
 rw [hc] at HA
 unfold cmV at HA ⊢
 have HC := hide hc
 dsimp only at HA ⊢
 clear h hc hb0
 go_enter Tryz.func19, Tryz.ntmps19
 go_wp2_with fail
 refine HA.out.mono ?_
 rintro e w1 ⟨rfl, hb1⟩
 have HB1 := hide (HB.out.trans (hb1.mono HB.out.size))
 clear hb1 HA
 unfold eno
 go_wp2_with fail
 go_ret2
 exact .inr ⟨HC.out, rfl, HB1.out⟩
set_option maxRecDepth 200000 in
set_option maxHeartbeats 8000000 in
theorem rput0_any {w : World} {p : Option Addr} {n d : Nat} {q : Option Addr} {m f : Nat} {se sq a : Int} {sp : List Sp} {vo : List Int} (h : CmAt w (.slice p n d) (.slice q m f) ⟨0, se, sq, a, sp, vo⟩) (hc : Cm.ok ⟨0, se, sq, a, sp, vo⟩ = true) : Calls Tryz.prog 19 #[.agg #[.int .i64 0, .int .i64 se, .int .i64 sq, .int .i64 a, .slice p n d, .slice q m f]] w (PutP w ⟨0, se, sq, a, sp, vo⟩) := by
 have hb0 := (Below.refl w.heap.size w).alloc (Nat.le_refl _) (.cells #[.int .i64 0, .int .i64 se, .int .i64 sq, .int .i64 a, .slice p n d, .slice q m f] 25)
 have HA := hide (rcheck_any (h.below hb0))
 have HB := hide hb0
 have HX := hide (BoxC.new w 0 se sq a (.slice p n d) (.slice q m f))
 have HW := hide h
 unfold ChkC at HA
 rw [hc] at HA
 unfold cmV at HA
 have HC := hide hc
 dsimp only at HA
 clear h hc hb0
 obtain ⟨z0, z1, z2, z3, z4, z5⟩ := HX.out
 go_enter Tryz.func19, Tryz.ntmps19
 go_wp2_with fail
 refine HA.out.mono ?_
 rintro e w1 ⟨rfl, hb1⟩
 have HB1 := hide (HB.out.trans (hb1.mono HB.out.size))
 have HX1 := hide (HX.out.below hb1)
 clear z0 z1 z2 z3 z4 z5
 obtain ⟨z0, z1, z2, z3, z4, z5⟩ := HX.out.below hb1
 have HWN := hide (refNumber_own (By.nil w1) (by simp) 0 0 (by omega) (by unfold lim; omega))
 clear hb1 HA
 unfold eno
 go_wp2_with fail
 refine HWN.out.mono ?_
 rintro e w2 ⟨v2, rfl, ho2, hb2⟩
 obtain ⟨p2, n2, c2, rfl⟩ := ho2.by_.sl
 have HO2 : Hid (Own w.heap.size w2 (.slice p2 n2 c2) (digits 0)) := hide (by have h1 := ho2.mono HB1.out.size; simpa using h1)
 have HB2 := hide (HB1.out.trans (hb2.mono HB1.out.size))
 have HX2 := hide (HX1.out.below hb2)
 clear z0 z1 z2 z3 z4 z5
 obtain ⟨z0, z1, z2, z3, z4, z5⟩ := HX1.out.below hb2
 clear ho2 hb2 HWN
 go_wp2_with fail
 go_ret2
 refine .inl ⟨HC.out, _, _, _, rfl, ?_, HB2.out⟩
 have h1 := HO2.out
 unfold Cm.bytes
 dsimp only
 simpa using h1
set_option maxRecDepth 200000 in
set_option maxHeartbeats 8000000 in
theorem rput1_any {w : World} {p : Option Addr} {n d : Nat} {q : Option Addr} {m f : Nat} {se sq a : Int} {sp : List Sp} {vo : List Int} (h : CmAt w (.slice p n d) (.slice q m f) ⟨1, se, sq, a, sp, vo⟩) (hc : Cm.ok ⟨1, se, sq, a, sp, vo⟩ = true) : Calls Tryz.prog 19 #[.agg #[.int .i64 1, .int .i64 se, .int .i64 sq, .int .i64 a, .slice p n d, .slice q m f]] w (PutP w ⟨1, se, sq, a, sp, vo⟩) := by
 have hb0 := (Below.refl w.heap.size w).alloc (Nat.le_refl _) (.cells #[.int .i64 1, .int .i64 se, .int .i64 sq, .int .i64 a, .slice p n d, .slice q m f] 25)
 have HA := hide (rcheck_any (h.below hb0))
 have HB := hide hb0
 have HX := hide (BoxC.new w 1 se sq a (.slice p n d) (.slice q m f))
 have HW := hide h
 unfold ChkC at HA
 rw [hc] at HA
 unfold cmV at HA
 have HC := hide hc
 dsimp only at HA
 clear h hc hb0
 obtain ⟨z0, z1, z2, z3, z4, z5⟩ := HX.out
 go_enter Tryz.func19, Tryz.ntmps19
 go_wp2_with fail
 refine HA.out.mono ?_
 rintro e w1 ⟨rfl, hb1⟩
 have HB1 := hide (HB.out.trans (hb1.mono HB.out.size))
 have HX1 := hide (HX.out.below hb1)
 clear z0 z1 z2 z3 z4 z5
 obtain ⟨z0, z1, z2, z3, z4, z5⟩ := HX.out.below hb1
 have HWN := hide (refNumber_own (By.nil w1) (by simp) 1 1 (by omega) (by unfold lim; omega))
 clear hb1 HA
 unfold eno
 go_wp2_with fail
 refine HWN.out.mono ?_
 rintro e w2 ⟨v2, rfl, ho2, hb2⟩
 obtain ⟨p2, n2, c2, rfl⟩ := ho2.by_.sl
 have HO2 : Hid (Own w.heap.size w2 (.slice p2 n2 c2) (digits 1)) := hide (by have h1 := ho2.mono HB1.out.size; simpa using h1)
 have HB2 := hide (HB1.out.trans (hb2.mono HB1.out.size))
 have HX2 := hide (HX1.out.below hb2)
 clear z0 z1 z2 z3 z4 z5
 obtain ⟨z0, z1, z2, z3, z4, z5⟩ := HX1.out.below hb2
 clear ho2 hb2 HWN
 go_wp2_with fail
 go_ret2
 refine .inl ⟨HC.out, _, _, _, rfl, ?_, HB2.out⟩
 have h1 := HO2.out
 unfold Cm.bytes
 dsimp only
 simpa using h1
set_option maxRecDepth 200000 in
set_option maxHeartbeats 8000000 in
theorem rput3_any {w : World} {p : Option Addr} {n d : Nat} {q : Option Addr} {m f : Nat} {se sq a : Int} {sp : List Sp} {vo : List Int} (h : CmAt w (.slice p n d) (.slice q m f) ⟨3, se, sq, a, sp, vo⟩) (hc : Cm.ok ⟨3, se, sq, a, sp, vo⟩ = true) : Calls Tryz.prog 19 #[.agg #[.int .i64 3, .int .i64 se, .int .i64 sq, .int .i64 a, .slice p n d, .slice q m f]] w (PutP w ⟨3, se, sq, a, sp, vo⟩) := by
 have hb0 := (Below.refl w.heap.size w).alloc (Nat.le_refl _) (.cells #[.int .i64 3, .int .i64 se, .int .i64 sq, .int .i64 a, .slice p n d, .slice q m f] 25)
 have HA := hide (rcheck_any (h.below hb0))
 have HB := hide hb0
 have HX := hide (BoxC.new w 3 se sq a (.slice p n d) (.slice q m f))
 have HW := hide h
 unfold ChkC at HA
 rw [hc] at HA
 unfold cmV at HA
 have HC := hide hc
 dsimp only at HA
 clear h hc hb0
 obtain ⟨z0, z1, z2, z3, z4, z5⟩ := HX.out
 go_enter Tryz.func19, Tryz.ntmps19
 go_wp2_with fail
 refine HA.out.mono ?_
 rintro e w1 ⟨rfl, hb1⟩
 have HB1 := hide (HB.out.trans (hb1.mono HB.out.size))
 have HX1 := hide (HX.out.below hb1)
 clear z0 z1 z2 z3 z4 z5
 obtain ⟨z0, z1, z2, z3, z4, z5⟩ := HX.out.below hb1
 have HWN := hide (refNumber_own (By.nil w1) (by simp) 3 3 (by omega) (by unfold lim; omega))
 clear hb1 HA
 unfold eno
 go_wp2_with fail
 refine HWN.out.mono ?_
 rintro e w2 ⟨v2, rfl, ho2, hb2⟩
 obtain ⟨p2, n2, c2, rfl⟩ := ho2.by_.sl
 have HO2 : Hid (Own w.heap.size w2 (.slice p2 n2 c2) (digits 3)) := hide (by have h1 := ho2.mono HB1.out.size; simpa using h1)
 have HB2 := hide (HB1.out.trans (hb2.mono HB1.out.size))
 have HX2 := hide (HX1.out.below hb2)
 clear z0 z1 z2 z3 z4 z5
 obtain ⟨z0, z1, z2, z3, z4, z5⟩ := HX1.out.below hb2
 clear ho2 hb2 HWN
 have ha : 0 ≤ a ∧ a ≤ 1099511627776 := by
  have h1 := HC.out
  unfold Cm.ok Cm.may at h1
  simp [btw_iff] at h1
  omega
 have HNU := hide (refNumber_own HO2.out.by_ (by have := digits_length 3 (by omega); omega) a a.toNat (by omega) (by unfold lim; omega))
 clear ha
 go_wp2_with fail
 refine HNU.out.mono ?_
 rintro e w4 ⟨v4, rfl, ho4, hb4⟩
 obtain ⟨p4, n4, c4, rfl⟩ := ho4.by_.sl
 have HO4 := hide (ho4.mono HB2.out.size)
 have HX4 := hide (HX2.out.below hb4)
 have HB4 := hide (HB2.out.trans (hb4.mono HB2.out.size))
 clear z0 z1 z2 z3 z4 z5
 obtain ⟨z0, z1, z2, z3, z4, z5⟩ := HX2.out.below hb4
 clear ho4 hb4 HNU
 go_wp2_with fail
 go_ret2
 refine .inl ⟨HC.out, _, _, _, rfl, ?_, HB4.out⟩
 have h1 := HO4.out
 unfold Cm.bytes
 dsimp only
 simpa [nmB] using h1
set_option maxRecDepth 200000 in
set_option maxHeartbeats 8000000 in
theorem rput4_any {w : World} {p : Option Addr} {n d : Nat} {q : Option Addr} {m f : Nat} {se sq a : Int} {sp : List Sp} {vo : List Int} (h : CmAt w (.slice p n d) (.slice q m f) ⟨4, se, sq, a, sp, vo⟩) (hc : Cm.ok ⟨4, se, sq, a, sp, vo⟩ = true) : Calls Tryz.prog 19 #[.agg #[.int .i64 4, .int .i64 se, .int .i64 sq, .int .i64 a, .slice p n d, .slice q m f]] w (PutP w ⟨4, se, sq, a, sp, vo⟩) := by
 have hb0 := (Below.refl w.heap.size w).alloc (Nat.le_refl _) (.cells #[.int .i64 4, .int .i64 se, .int .i64 sq, .int .i64 a, .slice p n d, .slice q m f] 25)
 have HA := hide (rcheck_any (h.below hb0))
 have HB := hide hb0
 have HX := hide (BoxC.new w 4 se sq a (.slice p n d) (.slice q m f))
 have HW := hide h
 unfold ChkC at HA
 rw [hc] at HA
 unfold cmV at HA
 have HC := hide hc
 dsimp only at HA
 clear h hc hb0
 obtain ⟨z0, z1, z2, z3, z4, z5⟩ := HX.out
 go_enter Tryz.func19, Tryz.ntmps19
 go_wp2_with fail
 refine HA.out.mono ?_
 rintro e w1 ⟨rfl, hb1⟩
 have HB1 := hide (HB.out.trans (hb1.mono HB.out.size))
 have HX1 := hide (HX.out.below hb1)
 clear z0 z1 z2 z3 z4 z5
 obtain ⟨z0, z1, z2, z3, z4, z5⟩ := HX.out.below hb1
 have HWN := hide (refNumber_own (By.nil w1) (by simp) 4 4 (by omega) (by unfold lim; omega))
 clear hb1 HA
 unfold eno
 go_wp2_with fail
 refine HWN.out.mono ?_
 rintro e w2 ⟨v2, rfl, ho2, hb2⟩
 obtain ⟨p2, n2, c2, rfl⟩ := ho2.by_.sl
 have HO2 : Hid (Own w.heap.size w2 (.slice p2 n2 c2) (digits 4)) := hide (by have h1 := ho2.mono HB1.out.size; simpa using h1)
 have HB2 := hide (HB1.out.trans (hb2.mono HB1.out.size))
 have HX2 := hide (HX1.out.below hb2)
 clear z0 z1 z2 z3 z4 z5
 obtain ⟨z0, z1, z2, z3, z4, z5⟩ := HX1.out.below hb2
 clear ho2 hb2 HWN
 have ha : 0 ≤ a ∧ a ≤ 1099511627777 := by
  have h1 := HC.out
  unfold Cm.ok Cm.may at h1
  simp [btw_iff] at h1
  omega
 have HNU := hide (refNumber_own HO2.out.by_ (by have := digits_length 4 (by omega); omega) a a.toNat (by omega) (by unfold lim; omega))
 clear ha
 go_wp2_with fail
 refine HNU.out.mono ?_
 rintro e w4 ⟨v4, rfl, ho4, hb4⟩
 obtain ⟨p4, n4, c4, rfl⟩ := ho4.by_.sl
 have HO4 := hide (ho4.mono HB2.out.size)
 have HX4 := hide (HX2.out.below hb4)
 have HB4 := hide (HB2.out.trans (hb4.mono HB2.out.size))
 clear z0 z1 z2 z3 z4 z5
 obtain ⟨z0, z1, z2, z3, z4, z5⟩ := HX2.out.below hb4
 clear ho4 hb4 HNU
 go_wp2_with fail
 go_ret2
 refine .inl ⟨HC.out, _, _, _, rfl, ?_, HB4.out⟩
 have h1 := HO4.out
 unfold Cm.bytes
 dsimp only
 simpa [nmB] using h1
set_option maxRecDepth 200000 in
set_option maxHeartbeats 8000000 in
theorem rput2_any {w : World} {p : Option Addr} {n d : Nat} {q : Option Addr} {m f : Nat} {se sq a : Int} {sp : List Sp} {vo : List Int} (h : CmAt w (.slice p n d) (.slice q m f) ⟨2, se, sq, a, sp, vo⟩) (hc : Cm.ok ⟨2, se, sq, a, sp, vo⟩ = true) : Calls Tryz.prog 19 #[.agg #[.int .i64 2, .int .i64 se, .int .i64 sq, .int .i64 a, .slice p n d, .slice q m f]] w (PutP w ⟨2, se, sq, a, sp, vo⟩) := by
 have hb0 := (Below.refl w.heap.size w).alloc (Nat.le_refl _) (.cells #[.int .i64 2, .int .i64 se, .int .i64 sq, .int .i64 a, .slice p n d, .slice q m f] 25)
 have HA := hide (rcheck_any (h.below hb0))
 have HB := hide hb0
 have HX := hide (BoxC.new w 2 se sq a (.slice p n d) (.slice q m f))
 have HW := hide h
 unfold ChkC at HA
 rw [hc] at HA
 unfold cmV at HA
 have HC := hide hc
 dsimp only at HA
 clear h hc hb0
 obtain ⟨z0, z1, z2, z3, z4, z5⟩ := HX.out
 go_enter Tryz.func19, Tryz.ntmps19
 go_wp2_with fail
 refine HA.out.mono ?_
 rintro e w1 ⟨rfl, hb1⟩
 have HB1 := hide (HB.out.trans (hb1.mono HB.out.size))
 have HX1 := hide (HX.out.below hb1)
 clear z0 z1 z2 z3 z4 z5
 obtain ⟨z0, z1, z2, z3, z4, z5⟩ := HX.out.below hb1
 have HWN := hide (refNumber_own (By.nil w1) (by simp) 2 2 (by omega) (by unfold lim; omega))
 clear hb1 HA
 unfold eno
 go_wp2_with fail
 refine HWN.out.mono ?_
 rintro e w2 ⟨v2, rfl, ho2, hb2⟩
 obtain ⟨p2, n2, c2, rfl⟩ := ho2.by_.sl
 have HO2 : Hid (Own w.heap.size w2 (.slice p2 n2 c2) (digits 2)) := hide (by have h1 := ho2.mono HB1.out.size; simpa using h1)
 have HB2 := hide (HB1.out.trans (hb2.mono HB1.out.size))
 have HX2 := hide (HX1.out.below hb2)
 clear z0 z1 z2 z3 z4 z5
 obtain ⟨z0, z1, z2, z3, z4, z5⟩ := HX1.out.below hb2
 clear ho2 hb2 HWN
 have hk : (1 ≤ se ∧ se ≤ 1099511627776) ∧ (1 ≤ sq ∧ sq ≤ 1099511627776) ∧ spsOk sp = true := by
  have h1 := HC.out
  unfold Cm.ok Cm.may at h1
  simp [btw_iff] at h1
  exact ⟨h1.1.1.1, h1.1.1.2, h1.1.2⟩
 obtain ⟨hse, hsq, hsp⟩ := hk
 obtain ⟨hl1, hl8, hall⟩ := spsOk_ok hsp
 have hel := spsOk_len hsp
 have hP : putB sp = (encL sp, 0) := by
  unfold putB
  rw [if_pos (List.all_eq_true.2 hall)]
 have HSP := hide (And.intro hl8 (And.intro hP hel))
 have HSQ := hide (And.intro hse hsq)
 have HKP : Hid (∀ U, Below w2.heap.size w2 U → U.cell? ⟨w.heap.size, 1, none⟩ = some (.int .i64 se) ∧ U.cell? ⟨w.heap.size, 2, none⟩ = some (.int .i64 sq)) := hide fun U hU => ⟨(HX2.out.below hU).2.1, (HX2.out.below hU).2.2.1⟩
 have HL3 : Hid ((digits 2 ++ digits se.toNat).length ≤ 18) := hide (by
  have h2 := digits_length 2 (by omega)
  have h3 := digits_length se.toNat (by omega)
  rw [List.length_append]; omega)
 have HLD : Hid ((digits 2 ++ digits se.toNat ++ digits sq.toNat).length ≤ 27) := hide (by
  have h2 := HL3.out
  have h3 := digits_length sq.toNat (by omega)
  rw [List.length_append]; omega)
 clear hse hsq hsp hl1 hl8 hall hP hel
 go_upto_region 5 with fail
 clear z0 z1 z2 z3 z4 z5
 refine wp_region_held_drew (S := (fun U => U.cell? ⟨w.heap.size, 1, none⟩ = some (.int .i64 se) ∧ U.cell? ⟨w.heap.size, 2, none⟩ = some (.int .i64 sq))) (by kernel_rfl) ?_ (fun hHeld => ?_)
 ·(try dsimp only)
  exact HKP.out _ (bdrew w2 1)
 refine tkI (i := 0) (oi := ⟨some 18, Op.move (Operand.tmp 4), 32, _, _, none⟩) (v := ?_) rfl (by rfl) ?_ ?_
 rotate_left
 ·intro w hSw
  (try dsimp only at hSw)
  go_simp
  try with_reducible rfl
 try simp only [Act.put, qA, qB, qC]
 refine tkI (i := 1) (oi := ⟨some 19, Op.fieldAddr 25 (Operand.tmp 1) 1, 0, _, _, none⟩) (v := ?_) rfl (by rfl) ?_ ?_
 rotate_left
 ·intro w hSw
  (try dsimp only at hSw)
  go_simp
  try with_reducible rfl
 try simp only [Act.put, qA, qB, qC]
 refine tkI (i := 2) (oi := ⟨some 20, Op.load 3 (Operand.tmp 19), 3, _, _, none⟩) (v := ?_) rfl (by rfl) ?_ ?_
 rotate_left
 ·intro w hSw
  (try dsimp only at hSw)
  go_simp
  try with_reducible rfl
 try simp only [Act.put, qA, qB, qC]
 refine tkI (i := 4) (oi := ⟨some 22, Op.fieldAddr 25 (Operand.tmp 1) 2, 0, _, _, none⟩) (v := ?_) rfl (by rfl) ?_ ?_
 rotate_left
 ·intro w hSw
  (try dsimp only at hSw)
  go_simp
  try with_reducible rfl
 try simp only [Act.put, qA, qB, qC]
 refine tkI (i := 5) (oi := ⟨some 23, Op.load 3 (Operand.tmp 22), 3, _, _, none⟩) (v := ?_) rfl (by rfl) ?_ ?_
 rotate_left
 ·intro w hSw
  (try dsimp only at hSw)
  go_simp
  try with_reducible rfl
 try simp only [Act.put, qA, qB, qC]
 refine wpAnyH_ready (rs := [3]) (by kernel_rfl) (by simp) ?_
 refine AllReadyH.cons (o := ⟨some 21, Op.call { callee := Callee.value (Operand.func 56), args := #[Operand.tmp 18, Operand.tmp 20], argTypes := #[32, 3] }, 32, _, _, none⟩) rfl (fun K hK => ?_) ?_
 ·go_simp
  go_at_call 56
  refine (refNumber_own (HO2.out.below (bdrew w2 1)).by_ (by have := digits_length 2 (by omega); omega) se se.toNat (by have := HSQ.out; omega) (by have := HSQ.out; unfold lim; omega)).mono ?_
  rintro e3 W3 ⟨v3, rfl, ho3, hb3⟩
  obtain ⟨p3, n3, c3, rfl⟩ := ho3.by_.sl
  have HO3 := hide ho3
  have HB3 : Hid (Below w2.heap.size w2 W3) := hide ((bdrew w2 1).trans hb3)
  clear ho3 hb3
  first
   | refine hK.out _ _ ?_ (fun hHeld => ?_)
   | (go_wp2_with fail; refine hK.out _ _ ?_ (fun hHeld => ?_))
  ·(try dsimp only)
   exact HKP.out _ HB3.out
  clear hK K
  try simp only [Act.put, qA, qB, qC]
  refine wpAnyH_ready (rs := [6]) (by kernel_rfl) (by simp) ?_
  refine AllReadyH.cons (o := ⟨some 24, Op.call { callee := Callee.value (Operand.func 56), args := #[Operand.tmp 21, Operand.tmp 23], argTypes := #[32, 3] }, 32, _, _, none⟩) rfl (fun K hK => ?_) ?_
  ·go_simp
   go_at_call 56
   refine (refNumber_own HO3.out.by_ (by have := HL3.out; omega) sq sq.toNat (by have := HSQ.out; omega) (by have := HSQ.out; unfold lim; omega)).mono ?_
   rintro e4 W4 ⟨v4, rfl, ho4, hb4⟩
   obtain ⟨p4, n4, c4, rfl⟩ := ho4.by_.sl
   have HO4 := hide (ho4.mono (B' := w.heap.size) (Nat.le_trans HB2.out.size HB3.out.size))
   have HB4 : Hid (Below w2.heap.size w2 W4) := hide (HB3.out.trans (hb4.mono HB3.out.size))
   clear ho4 hb4
   first
    | refine hK.out _ _ ?_ (fun hHeld => ?_)
    | (go_wp2_with fail; refine hK.out _ _ ?_ (fun hHeld => ?_))
   ·(try dsimp only)
    exact HKP.out _ HB4.out
   clear hK K
   try simp only [Act.put, qA, qB, qC]
   refine tkI (i := 7) (oi := ⟨some 4, Op.assign (Operand.tmp 24), 32, _, _, none⟩) (v := ?_) rfl (by rfl) ?_ ?_
   rotate_left
   ·intro w hSw
    (try dsimp only at hSw)
    go_simp
    try with_reducible rfl
   try simp only [Act.put, qA, qB, qC]
   refine wpAnyH_done (by kernel_rfl) ?_ _
   clear hHeld
   have HXW : Hid (BoxC W4 w.heap.size 2 se sq a (.slice p n d) (.slice q m f)) := hide (HX2.out.below HB4.out)
   obtain ⟨z0, z1, z2, z3, z4, z5⟩ := HXW.out
   go_wp2_with fail
   refine (refPut_any (HW.out.sp.below (HB2.out.trans (HB4.out.mono HB2.out.size))) (by have := HSP.out.1; dsimp only; omega) HW.out.nm HSP.out.2.1).mono ?_
   rintro e w5 ⟨v5, rfl, ho5, hb5⟩
   obtain ⟨p5, n5, c5, rfl⟩ := ho5.by_.sl
   have hcv := conv_at ho5.by_
   have HB5 : Hid (Below w2.heap.size w2 w5) := hide (HB4.out.trans (hb5.mono HB4.out.size))
   have HO45 := hide (HO4.out.below hb5)
   clear ho5 hb5 z0 z1 z2 z3 z4 z5
   obtain ⟨z0, z1, z2, z3, z4, z5⟩ := HX2.out.below HB5.out
   go_wp2_with fail
   have hsz : (str (encL sp)).size = (encL sp).length := by rw [str_eq]; rfl
   have hdt : (str (encL sp)).data.toList = encL sp := by rw [str_eq]
   refine (refText_any HO45.out.by_ (by have := HSP.out.2.2; have := HLD.out; omega) (str (encL sp)) (by rw [hsz]; have := HSP.out.2.2; omega)).mono ?_
   rintro e w6 ⟨v6, rfl, ho6, hb6⟩
   rw [hsz, hdt, List.append_assoc] at ho6
   obtain ⟨p6, n6, c6, rfl⟩ := ho6.by_.sl
   have HB6 : Hid (Below w2.heap.size w2 w6) := hide (HB5.out.trans (hb6.mono HB5.out.size))
   have HO6 := hide (ho6.mono (B' := w.heap.size) (Nat.le_trans HB2.out.size HB5.out.size))
   clear ho6 hb6 hsz hdt hcv z0 z1 z2 z3 z4 z5
   obtain ⟨z0, z1, z2, z3, z4, z5⟩ := HX2.out.below HB6.out
   go_wp2_with fail
   go_ret2
   refine .inl ⟨HC.out, _, _, _, rfl, ?_, HB2.out.trans (HB6.out.mono HB2.out.size)⟩
   have h1 := HO6.out
   unfold Cm.bytes
   dsimp only
   simpa [txB, nmB] using h1
  exact AllReadyH.nil
 exact AllReadyH.nil
set_option maxRecDepth 200000 in
set_option maxHeartbeats 8000000 in
theorem rput5_any {w : World} {p : Option Addr} {n d : Nat} {q : Option Addr} {m f : Nat} {se sq a : Int} {sp : List Sp} {vo : List Int} (h : CmAt w (.slice p n d) (.slice q m f) ⟨5, se, sq, a, sp, vo⟩) (hc : Cm.ok ⟨5, se, sq, a, sp, vo⟩ = true) : Calls Tryz.prog 19 #[.agg #[.int .i64 5, .int .i64 se, .int .i64 sq, .int .i64 a, .slice p n d, .slice q m f]] w (PutP w ⟨5, se, sq, a, sp, vo⟩) := by
 have hb0 := (Below.refl w.heap.size w).alloc (Nat.le_refl _) (.cells #[.int .i64 5, .int .i64 se, .int .i64 sq, .int .i64 a, .slice p n d, .slice q m f] 25)
 have HA := hide (rcheck_any (h.below hb0))
 have HB := hide hb0
 have HX := hide (BoxC.new w 5 se sq a (.slice p n d) (.slice q m f))
 have HW := hide h
 unfold ChkC at HA
 rw [hc] at HA
 unfold cmV at HA
 have HC := hide hc
 dsimp only at HA
 clear h hc hb0
 obtain ⟨z0, z1, z2, z3, z4, z5⟩ := HX.out
 go_enter Tryz.func19, Tryz.ntmps19
 go_wp2_with fail
 refine HA.out.mono ?_
 rintro e w1 ⟨rfl, hb1⟩
 have HB1 := hide (HB.out.trans (hb1.mono HB.out.size))
 have HX1 := hide (HX.out.below hb1)
 clear z0 z1 z2 z3 z4 z5
 obtain ⟨z0, z1, z2, z3, z4, z5⟩ := HX.out.below hb1
 have HWN := hide (refNumber_own (By.nil w1) (by simp) 5 5 (by omega) (by unfold lim; omega))
 clear hb1 HA
 unfold eno
 go_wp2_with fail
 refine HWN.out.mono ?_
 rintro e w2 ⟨v2, rfl, ho2, hb2⟩
 obtain ⟨p2, n2, c2, rfl⟩ := ho2.by_.sl
 have HO2 : Hid (Own w.heap.size w2 (.slice p2 n2 c2) (digits 5)) := hide (by have h1 := ho2.mono HB1.out.size; simpa using h1)
 have HB2 := hide (HB1.out.trans (hb2.mono HB1.out.size))
 have HX2 := hide (HX1.out.below hb2)
 clear z0 z1 z2 z3 z4 z5
 obtain ⟨z0, z1, z2, z3, z4, z5⟩ := HX1.out.below hb2
 clear ho2 hb2 HWN
 have hk : okR vo = true := by
  have h1 := HC.out
  unfold Cm.ok Cm.may at h1
  simp at h1
  exact h1.1
 obtain ⟨hv7, hvn⟩ := okR_len hk
 have hmv := HW.out.vo.len.1
 dsimp only at hmv
 have HMV := hide (And.intro hmv (And.intro hv7 hvn))
 have hm7 : (m : Int) ≤ 7 := by omega
 have HNU := hide (refNumber_own HO2.out.by_ (by have := digits_length 5 (by omega); omega) (m : Int) m (by omega) (by unfold lim; omega))
 clear hk hv7 hvn hmv
 go_wp2_with fail
 refine HNU.out.mono ?_
 rintro e w4 ⟨v4, rfl, ho4, hb4⟩
 obtain ⟨p4, n4, c4, rfl⟩ := ho4.by_.sl
 have HO4 := hide (ho4.mono HB2.out.size)
 have HX4 := hide (HX2.out.below hb4)
 have HB4 := hide (HB2.out.trans (hb4.mono HB2.out.size))
 have HL4 : Hid ((digits 5 ++ digits m).length ≤ 18) := hide (by
  have h2 := digits_length 5 (by omega)
  have h3 := digits_length m (by omega)
  rw [List.length_append]; omega)
 clear z0 z1 z2 z3 z4 z5
 obtain ⟨z0, z1, z2, z3, z4, z5⟩ := HX2.out.below hb4
 have HVO := hide (fun U (hU : Below w4.heap.size w4 U) => HW.out.vo.below (w' := U) (HB4.out.trans (hU.mono HB4.out.size)))
 clear ho4 hb4 HNU
 go_wp2_with fail
 go_loopw [4, 8, 58] (fun x _ i wr => ∃ k : Nat, k ≤ m ∧ i = .int .i64 k ∧ (∃ p n c, x = .slice p n c) ∧ Hid (Own w.heap.size wr x (digits 5 ++ digits m ++ nmB (vo.take k)) ∧ Below w4.heap.size w4 wr)) (fun _ _ i _ => m - (intOf i).toNat)
 case atStart => exact ⟨0, by omega, rfl, ⟨_, _, _, rfl⟩, hide ⟨by rw [List.take_zero]; show Own _ _ _ (_ ++ []); rw [List.append_nil]; exact HO4.out, Below.refl _ _⟩⟩
 case round =>
  obtain ⟨k, hk, rfl, ⟨px, nx_, cx, rfl⟩, HR⟩ := hrel
  by_cases hlt : k < m
  ·obtain ⟨y, hy⟩ : ∃ y, vo[k]? = some y := ⟨_, List.getElem?_eq_getElem (by have := HMV.out.1; omega)⟩
   obtain ⟨g, o, rfl, hx⟩ := (HVO.out _ HR.out.2).at_ (by omega)
   have hc := hx k y hy
   have hym := HMV.out.2.2 y (List.mem_of_getElem? hy)
   have HTK := hide (nmB_take hy)
   have hlen : (nmB (vo.take k)).length ≤ 63 := by
    have h1 := nmB_len (vo.take k) (fun x hx => by have := HMV.out.2.2 x (List.mem_of_mem_take hx); omega)
    have h2 := List.length_take_le k vo
    have := HMV.out.2.1
    omega
   have HN5 := hide (refNumber_own HR.out.1.by_ (by have := HL4.out; simp only [List.length_append] at *; omega) y y.toNat (by omega) (by unfold lim; omega))
   clear hx hy hym hlen
   go_wp2_with fail
   refine HN5.out.mono ?_
   rintro e w5 ⟨v5, rfl, ho5, hb5⟩
   obtain ⟨p5, n5, c5, rfl⟩ := ho5.by_.sl
   have H5 : Hid (Own w.heap.size w5 (.slice p5 n5 c5) (digits 5 ++ digits m ++ nmB (vo.take (k + 1))) ∧ Below w4.heap.size w4 w5) := hide ⟨by rw [HTK.out, ← List.append_assoc]; exact ho5.mono (Nat.le_trans HB4.out.size HR.out.2.size), HR.out.2.trans (hb5.mono HR.out.2.size)⟩
   clear ho5 hb5 HN5 hc
   go_wp2_with fail
   go_roundw
   case rel => exact ⟨k + 1, by omega, by go_num, ⟨_, _, _, rfl⟩, H5⟩
   case measure => simp [intOf]; omega
  ·have e : vo.take k = vo := List.take_of_length_le (by have := HMV.out.1; omega)
   have HF := hide HR.out.1
   rw [e] at HF
   clear e
   go_wp2_with fail
   go_ret2
   refine .inl ⟨HC.out, _, _, _, rfl, ?_, HB4.out.trans (HR.out.2.mono HB4.out.size)⟩
   have h1 := HF.out
   rw [HMV.out.1] at h1
   unfold Cm.bytes
   dsimp only
   simpa [nmB] using h1
theorem rput_any {w : World} {vs vv : Value} {c : Cm} (h : CmAt w vs vv c) : Calls Tryz.prog 19 #[cmV c vs vv] w (PutP w c) := by
 by_cases hc : c.ok = true
 ·obtain ⟨p, n, d, rfl⟩ := h.sp.sl
  obtain ⟨q, m, f, rfl⟩ := h.vo.sl
  obtain ⟨k, se, sq, a, sp, vo⟩ := c
  have hk : k = 0 ∨ k = 1 ∨ k = 2 ∨ k = 3 ∨ k = 4 ∨ k = 5 := by
   rcases (Cm.ok_iff _).1 hc with h1 | h1 | h1 | h1 | h1
   ·exact h1.1.imp id fun e => .inl e
   ·exact .inr (.inr (.inl h1.1))
   ·exact .inr (.inr (.inr (.inl h1.1)))
   ·exact .inr (.inr (.inr (.inr (.inl h1.1))))
   ·exact .inr (.inr (.inr (.inr (.inr h1.1))))
  rcases hk with rfl | rfl | rfl | rfl | rfl | rfl
  ·exact rput0_any h hc
  ·exact rput1_any h hc
  ·exact rput2_any h hc
  ·exact rput3_any h hc
  ·exact rput4_any h hc
  ·exact rput5_any h hc
 ·exact rputNo_any h (by simpa using hc)
end Go.Proofs.YtionbmlicmibgaaGreatDoor
