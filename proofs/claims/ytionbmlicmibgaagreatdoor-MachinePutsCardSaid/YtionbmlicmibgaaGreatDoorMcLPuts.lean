/- The law MachinePuts. -/
import Derived.Test.YtionbmlicmibgaaGreatDoorMcAw
import Derived.Test.YtionbmlicmibgaaGreatDoorMcHvy
import Derived.Test.YtionbmlicmibgaaGreatDoorMcRPut
import Derived.Test.YtionbmlicmibgaaGreatDoorMcLPuts0
namespace Go.Proofs.YtionbmlicmibgaaGreatDoor
set_option linter.unusedVariables false
set_option linter.unusedSimpArgs false
open Go.RowKit

def ChkU (U : World) (vs vv : Value) (f : FuncId) (c : Cm) : Prop := Calls Tryz.prog f #[cmV c vs vv] U (ChkC U c)
set_option maxRecDepth 200000 in
set_option maxHeartbeats 16000000 in
theorem lawMPuts_any {w : World} (hE : ErrT w) {k se sq a : Int} {p : Option Addr} {n d : Nat} {q : Option Addr} {m f : Nat} {sp : List Sp} {vo : List Int} (hs : Sps w (.slice p n d) sp) (hnm : ∀ x ∈ sp, x.n.size ≤ maxLen) (hv : Ns w (.slice q m f) vo) (_ : fits k ∧ fits se ∧ fits sq ∧ fits a) (hmz : m * 8 ≤ 140737488351232) : Calls Tryz.prog 3 #[.agg #[.int .i64 k, .int .i64 se, .int .i64 sq, .int .i64 a, .slice p n d, .slice q m f]] w fun e w' => e = .returned (.bool true) ∧ Below w.heap.size w w' := by
 have HE := hide hE
 have HVZ : Hid (vo.length * 8 ≤ 140737488351232) := hide (by have := hv.len.1; omega)
 have hbx := (Below.refl w.heap.size w).alloc (Nat.le_refl _) (.cells #[.int .i64 k, .int .i64 se, .int .i64 sq, .int .i64 a, .slice p n d, .slice q m f] 25)
 have hbc := BoxC.new w k se sq a (.slice p n d) (.slice q m f)
 obtain ⟨X, hX⟩ : ∃ X, w.alloc (.cells #[.int .i64 k, .int .i64 se, .int .i64 sq, .int .i64 a, .slice p n d, .slice q m f] 25) = X := ⟨_, rfl⟩
 obtain ⟨b, hbq⟩ : ∃ b, w.heap.size = b := ⟨_, rfl⟩
 rw [hX] at hbx hbc
 have HB0 : Hid (Below w.heap.size w X) := hide hbx
 rw [hbq] at hbc
 have HBW : Hid (w.heap.size = b) := hide hbq
 have HBX : Hid (∀ U, Below X.heap.size X U → BoxC U b k se sq a (.slice p n d) (.slice q m f)) := hide fun U hU => hbc.below hU
 have HV := hide (mheavy_any (k := k) (se := se) (sq := sq) (a := a) (hs.below hbx) (Nat.le_trans (hv.below hbx).len.2.1 (hv.below hbx).len.2.2) hnm (q := q) (f := f) (d := d) (p := p))
 have HCA := hide (And.intro hs (And.intro hv hnm))
 obtain ⟨x0, x1, x2, x3, x4, x5⟩ := hbc
 clear hs hv hnm hbx hE hmz
 go_enter Tryz.func3, Tryz.ntmps3
 go_wp2_with fail
 clear hX hbq
 refine HV.out.mono ?_
 rintro e w1 ⟨⟨y, rfl, hy0, hy1, hsm⟩, hb1⟩
 have HB1 : Hid (Below w.heap.size w w1) := hide (HB0.out.trans (hb1.mono HB0.out.size))
 have HX1 := hide (HBX.out _ hb1)
 have HSM0 := hide hsm
 clear hb1 hsm HV x0 x1 x2 x3 x4 x5
 by_cases hy : 32768 < y
 ·have e1 : decide (32768 < y) = true := decide_eq_true hy
  go_wp2_with fail
  refine (mawake_any (HE.out.below HB1.out)).mono ?_
  rintro e wz ⟨rfl, hbz⟩
  go_wp2_with fail
  go_ret
  exact ⟨rfl, HB1.out.trans (hbz.mono HB1.out.size)⟩
 ·have e1 : decide (32768 < y) = false := decide_eq_false hy
  have HSM := hide (HSM0.out (by omega))
  have HCM : Hid (CmAt w (.slice p n d) (.slice q m f) ⟨k, se, sq, a, sp, vo⟩) := hide ⟨HCA.out.1, HCA.out.2.1, fun x hx => by have := HSM.out.2 x hx; omega⟩
  obtain ⟨x0, x1, x2, x3, x4, x5⟩ := HX1.out
  go_upto_region 4 with fail
  have hbA := (Below.refl w1.heap.size w1).alloc (Nat.le_refl _) (.cells #[.int .i64 k, .int .i64 se, .int .i64 sq, .int .i64 a, .slice p n d, .slice q m f] 25)
  have hrA := RowC.new (k := k) (se := se) (sq := sq) (a := a) (vs := .slice p n d) (vv := .slice q m f) w1
  have hsA : (w1.alloc (.cells #[.int .i64 k, .int .i64 se, .int .i64 sq, .int .i64 a, .slice p n d, .slice q m f] 25)).heap.size = w1.heap.size + 1 := by simp
  obtain ⟨W1, hW1⟩ : ∃ W, w1.alloc (.cells #[.int .i64 k, .int .i64 se, .int .i64 sq, .int .i64 a, .slice p n d, .slice q m f] 25) = W := ⟨_, rfl⟩
  rw [hW1] at hbA hrA hsA ⊢
  obtain ⟨r, hr⟩ : ∃ r, w1.heap.size = r := ⟨_, rfl⟩
  have HW1 : Hid (Below w.heap.size w W1) := hide (HB1.out.trans (hbA.mono HB1.out.size))
  have HBX1 : Hid (∀ U, Below W1.heap.size W1 U → BoxC U b k se sq a (.slice p n d) (.slice q m f)) := hide fun U hU => (HX1.out.below hbA).below hU
  have HRB : Hid (w.heap.size ≤ r ∧ r < W1.heap.size) := hide ⟨by have := HB1.out.size; omega, by omega⟩
  have HBR : Hid (b ≠ r) := hide (by have := lt_of_cell HX1.out.1; have : b < w1.heap.size := this; omega)
  rw [hr] at hrA ⊢
  have HRW := hide hrA
  have HK4 : Hid (∀ U, Below W1.heap.size W1 U → U.cell? ⟨b, 4, none⟩ = some (.slice p n d) ∧ U.cell? ⟨b, 5, none⟩ = some (.slice q m f)) := hide fun U hU => ⟨(HBX1.out U hU).2.2.2.2.1, (HBX1.out U hU).2.2.2.2.2⟩
  clear hbA hrA hsA hW1 hr x0 x1 x2 x3 x4 x5
  refine wp_region_held_drew (S := (fun U => U.cell? ⟨b, 4, none⟩ = some (.slice p n d) ∧ U.cell? ⟨b, 5, none⟩ = some (.slice q m f))) (by kernel_rfl) ?_ (fun hHeld => ?_)
  ·(try dsimp only)
   exact HK4.out _ (bdrew W1 1)
  refine wpAnyH_take (i := 0) (oi := { dst := some 13, op := Op.fieldAddr 25 (Operand.tmp 1) 4, type := 0, pos := "law.go:96", after := #[], guard := none }) (v := ?_) rfl (by kernel_rfl) (by kernel_rfl) (by kernel_rfl) (fun _ _ _ h => h) (Or.inl ⟨by rfl, ?_⟩) (by assumption) ?_
  rotate_left
  ·intro w hSw
   (try dsimp only at hSw)
   go_simp
   try with_reducible rfl
  try simp only [Act.put, List.setIfInBounds_toArray, List.set_cons_zero, List.set_cons_succ]
  refine wpAnyH_take (i := 1) (oi := { dst := some 14, op := Op.load 22 (Operand.tmp 13), type := 22, pos := "law.go:96", after := _, guard := none }) (v := ?_) rfl (by kernel_rfl) (by kernel_rfl) (by kernel_rfl) (fun _ _ _ h => h) (Or.inl ⟨by rfl, ?_⟩) (by assumption) ?_
  rotate_left
  ·intro w hSw
   (try dsimp only at hSw)
   go_simp
   try with_reducible rfl
  try simp only [Act.put, List.setIfInBounds_toArray, List.set_cons_zero, List.set_cons_succ]
  refine wpAnyH_take (i := 3) (oi := { dst := some 16, op := Op.fieldAddr 25 (Operand.tmp 1) 5, type := 0, pos := "law.go:96", after := #[], guard := none }) (v := ?_) rfl (by kernel_rfl) (by kernel_rfl) (by kernel_rfl) (fun _ _ _ h => h) (Or.inl ⟨by rfl, ?_⟩) (by assumption) ?_
  rotate_left
  ·intro w hSw
   (try dsimp only at hSw)
   go_simp
   try with_reducible rfl
  try simp only [Act.put, List.setIfInBounds_toArray, List.set_cons_zero, List.set_cons_succ]
  refine wpAnyH_take (i := 4) (oi := { dst := some 17, op := Op.load 23 (Operand.tmp 16), type := 23, pos := "law.go:96", after := _, guard := none }) (v := ?_) rfl (by kernel_rfl) (by kernel_rfl) (by kernel_rfl) (fun _ _ _ h => h) (Or.inl ⟨by rfl, ?_⟩) (by assumption) ?_
  rotate_left
  ·intro w hSw
   (try dsimp only at hSw)
   go_simp
   try with_reducible rfl
  try simp only [Act.put, List.setIfInBounds_toArray, List.set_cons_zero, List.set_cons_succ]
  refine wpAnyH_ready (rs := [2]) (by kernel_rfl) (by simp) ?_
  refine AllReadyH.cons (o := { dst := some 15, op := Op.call { callee := Callee.value (Operand.func 16), args := #[Operand.tmp 14], argTypes := #[22] }, type := 22, pos := "law.go:96", after := _, guard := none }) rfl (fun K hK => ?_) ?_
  ·go_simp
   go_at_call 16
   refine (cloneSp_any (HCA.out.1.below (HW1.out.trans ((bdrew W1 1).mono HW1.out.size))) (by have := HSM.out.1; omega)).mono ?_
   rintro e3 W3 ⟨vs3, rfl, ho3, hb3⟩
   obtain ⟨p3, n3, d3, rfl⟩ := ho3.sps.sl
   have HO3 := hide ho3
   have HB3 : Hid (Below W1.heap.size W1 W3) := hide ((bdrew W1 1).trans hb3)
   clear ho3 hb3
   first
    | refine hK.out _ _ ?_ (fun hHeld => ?_)
    | (go_wp2_with fail; refine hK.out _ _ ?_ (fun hHeld => ?_))
   ·(try dsimp only)
    exact HK4.out _ HB3.out
   clear hK K
   try simp only [Act.put, List.setIfInBounds_toArray, List.set_cons_zero, List.set_cons_succ]
   refine wpAnyH_take (i := 6) (oi := { dst := some 19, op := Op.fieldAddr 25 (Operand.tmp 3) 4, type := 0, pos := "law.go:96", after := _, guard := none }) (v := ?_) rfl (by kernel_rfl) (by kernel_rfl) (by kernel_rfl) (fun _ _ _ h => h) (Or.inl ⟨by rfl, ?_⟩) (by assumption) ?_
   rotate_left
   ·intro w hSw
    (try dsimp only at hSw)
    go_simp
    try with_reducible rfl
   try simp only [Act.put, List.setIfInBounds_toArray, List.set_cons_zero, List.set_cons_succ]
   refine wpAnyH_ready (rs := [5]) (by kernel_rfl) (by simp) ?_
   refine AllReadyH.cons (o := { dst := some 18, op := Op.call { callee := Callee.value (Operand.func 17), args := #[Operand.tmp 17], argTypes := #[23] }, type := 23, pos := "law.go:96", after := _, guard := none }) rfl (fun K hK => ?_) ?_
   ·go_simp
    go_at_call 17
    refine (cloneN_any (HCA.out.2.1.below (HW1.out.trans (HB3.out.mono HW1.out.size))) (Nat.le_trans HVZ.out (by decide))).mono ?_
    rintro e4 W4 ⟨vs4, rfl, ho4, hb4⟩
    obtain ⟨p4, n4, d4, rfl⟩ := ho4.ns.sl
    have HO4 := hide ho4
    have HB4 : Hid (Below W1.heap.size W1 W4) := hide (HB3.out.trans (hb4.mono HB3.out.size))
    have HR4 : Hid (RowC W4 r k se sq a (.slice p n d) (.slice q m f)) := hide (HRW.out.below HB4.out)
    have HO34 := hide (HO3.out.below hb4)
    have fr4 := HR4.out.fr 4
    have fr5 := HR4.out.fr 5
    have x4 := HR4.out.box.2.2.2.2.1
    have x5 := HR4.out.box.2.2.2.2.2
    clear ho4 hb4
    first
     | refine hK.out _ _ ?_ (fun hHeld => ?_)
     | (go_wp2_with fail; refine hK.out _ _ ?_ (fun hHeld => ?_))
    ·(try dsimp only)
     exact HK4.out _ HB4.out
    clear hK K
    try simp only [Act.put, List.setIfInBounds_toArray, List.set_cons_zero, List.set_cons_succ]
    refine wpAnyH_ready (rs := [7]) (by kernel_rfl) (by simp) ?_
    refine AllReadyH.cons (o := { dst := none, op := Op.store 22 (Operand.tmp 19) (Operand.tmp 15), type := 0, pos := "law.go:96", after := _, guard := none }) rfl (fun K hK => ?_) ?_
    ·go_simp
     first
      | refine hK.out _ _ ?_ (fun hHeld => ?_)
      | (go_wp2_with fail; refine hK.out _ _ ?_ (fun hHeld => ?_))
     ·(try dsimp only)
      exact ⟨(chg_set W4 r 4 (.slice p3 n3 d3)).cell (HK4.out _ HB4.out).1 HBR.out, (chg_set W4 r 4 (.slice p3 n3 d3)).cell (HK4.out _ HB4.out).2 HBR.out⟩
     clear hK K
     try simp only [Act.put, List.setIfInBounds_toArray, List.set_cons_zero, List.set_cons_succ]
     refine wpAnyH_take (i := 8) (oi := { dst := some 20, op := Op.fieldAddr 25 (Operand.tmp 3) 5, type := 0, pos := "law.go:96", after := _, guard := none }) (v := ?_) rfl (by kernel_rfl) (by kernel_rfl) (by kernel_rfl) (fun _ _ _ h => h) (Or.inl ⟨by rfl, ?_⟩) (by assumption) ?_
     rotate_left
     ·intro w hSw
      (try dsimp only at hSw)
      go_simp
      try with_reducible rfl
     try simp only [Act.put, List.setIfInBounds_toArray, List.set_cons_zero, List.set_cons_succ]
     refine wpAnyH_ready (rs := [9]) (by kernel_rfl) (by simp) ?_
     refine AllReadyH.cons (o := { dst := none, op := Op.store 23 (Operand.tmp 20) (Operand.tmp 18), type := 0, pos := "law.go:96", after := _, guard := none }) rfl (fun K hK => ?_) ?_
     ·go_simp
      first
       | refine hK.out _ _ ?_ (fun hHeld => ?_)
       | (go_wp2_with fail; refine hK.out _ _ ?_ (fun hHeld => ?_))
      ·(try dsimp only)
       exact ⟨(chgS (chg_set W4 r 4 (.slice p3 n3 d3)) (chg_set _ r 5 (.slice p4 n4 d4))).cell (HK4.out _ HB4.out).1 HBR.out, (chgS (chg_set W4 r 4 (.slice p3 n3 d3)) (chg_set _ r 5 (.slice p4 n4 d4))).cell (HK4.out _ HB4.out).2 HBR.out⟩
      clear hK K
      try simp only [Act.put, List.setIfInBounds_toArray, List.set_cons_zero, List.set_cons_succ]
      refine wpAnyH_done (by kernel_rfl) ?_ _
      clear hHeld
      have hst := (HR4.out.set4 (.slice p3 n3 d3)).set5 (.slice p4 n4 d4)
      have hcs := chgS (chg_set W4 r 4 (.slice p3 n3 d3)) (chg_set (W4.setCell ⟨r, 4, none⟩ (.slice p3 n3 d3)) r 5 (.slice p4 n4 d4))
      obtain ⟨W5, hW5⟩ : ∃ W, (W4.setCell ⟨r, 4, none⟩ (.slice p3 n3 d3)).setCell ⟨r, 5, none⟩ (.slice p4 n4 d4) = W := ⟨_, rfl⟩
      rw [hW5] at hst hcs
      have HR5 := hide hst
      have HB5 : Hid (Below w.heap.size w W5) := hide (Chg.to_below (HW1.out.trans (HB4.out.mono HW1.out.size)) hcs (fun j e => by have := HRB.out; omega))
      have HX5 : Hid (BoxC W5 b k se sq a (.slice p n d) (.slice q m f)) := hide (by
       have h1 := HBX1.out _ HB4.out
       exact ⟨hcs.cell h1.1 HBR.out, hcs.cell h1.2.1 HBR.out, hcs.cell h1.2.2.1 HBR.out, hcs.cell h1.2.2.2.1 HBR.out, hcs.cell h1.2.2.2.2.1 HBR.out, hcs.cell h1.2.2.2.2.2 HBR.out⟩)
      have HC5 : Hid (CmAt W5 (.slice p3 n3 d3) (.slice p4 n4 d4) ⟨k, se, sq, a, sp, vo⟩) := hide ⟨(HO34.out.chgB hcs (fun j hj e => by have h1 := (HO34.out.lt j hj).1; have h2 := HRB.out.2; have h3 : W1.heap.size ≤ j := h1; omega)).sps, (HO4.out.chgB hcs (fun j hj e => by have h1 := (HO4.out.lt j hj).1; have h2 := HRB.out.2; have h3 := HB3.out.size; omega)).ns, HCM.out.nm⟩
      have HMP := hide (putP_is (mput_any HC5.out))
      clear hst hcs x4 x5 fr4 fr5
      rw [hW5]
      clear hW5
      obtain ⟨y0, y1, y2, y3, y4, y5⟩ := HR5.out.box
      unfold cmV at HMP
      dsimp only at HMP
      go_wp2_with fail
      refine HMP.out.mono ?_
      rintro e W6 ⟨p6, n6, d6, rfl, hby6, hb6⟩
      replace hby6 := hby6.by_
      have HB6 : Hid (Below w.heap.size w W6) := hide (HB5.out.trans (hb6.mono HB5.out.size))
      have HX6 := hide (HX5.out.below hb6)
      have HR6 := hide (HR5.out.below hb6)
      have HC6 := hide (HC5.out.below hb6)
      have HBY6 := hide hby6
      have HRP := hide (putP_is (rput_any (HCM.out.below HB6.out)))
      clear hby6 hb6 HMP y0 y1 y2 y3 y4 y5
      obtain ⟨y0, y1, y2, y3, y4, y5⟩ := HX6.out
      unfold cmV at HRP
      dsimp only at HRP
      go_wp2_with fail
      refine HRP.out.mono ?_
      rintro e W7 ⟨p7, n7, d7, rfl, hby7, hb7⟩
      replace hby7 := hby7.by_
      have HB7 : Hid (Below w.heap.size w W7) := hide (HB6.out.trans (hb7.mono HB6.out.size))
      have HKP : Hid (∀ U, Below W7.heap.size W7 U → U.cell? ⟨r, 0, none⟩ = some (.int .i64 k) ∧ U.cell? ⟨r, 1, none⟩ = some (.int .i64 se) ∧ U.cell? ⟨r, 2, none⟩ = some (.int .i64 sq) ∧ U.cell? ⟨r, 3, none⟩ = some (.int .i64 a) ∧ U.cell? ⟨r, 4, none⟩ = some (.slice p3 n3 d3) ∧ U.cell? ⟨r, 5, none⟩ = some (.slice p4 n4 d4) ∧ U.cell? ⟨b, 0, none⟩ = some (.int .i64 k) ∧ U.cell? ⟨b, 1, none⟩ = some (.int .i64 se) ∧ U.cell? ⟨b, 2, none⟩ = some (.int .i64 sq) ∧ U.cell? ⟨b, 3, none⟩ = some (.int .i64 a) ∧ U.cell? ⟨b, 4, none⟩ = some (.slice p n d) ∧ U.cell? ⟨b, 5, none⟩ = some (.slice q m f)) := hide fun U hU => (by
       have h1 := HR6.out.below (hb7.trans (hU.mono hb7.size))
       have h2 := HX6.out.below (hb7.trans (hU.mono hb7.size))
       obtain ⟨a0, a1, a2, a3, a4, a5⟩ := h1.box
       obtain ⟨c0, c1, c2, c3, c4, c5⟩ := h2
       exact ⟨a0, a1, a2, a3, a4, a5, c0, c1, c2, c3, c4, c5⟩)
      have HEQ : Hid (∀ U, Below W7.heap.size W7 U → Calls Tryz.prog 20 #[.slice p6 n6 d6, .slice p7 n7 d7] U fun e w' => e = .returned (.bool true) ∧ U = w') := hide fun U hU => by
       have h1 := equal_any (HBY6.out.below (hb7.trans (hU.mono hb7.size))) (hby7.below hU)
       rwa [beq_self_eq_true] at h1
      have HC1 : Hid (∀ U, Below W7.heap.size W7 U → ChkU U (.slice p3 n3 d3) (.slice p4 n4 d4) 21 ⟨k, se, sq, a, sp, vo⟩) := hide fun U hU => mcheck_any (HC6.out.below (hb7.trans (hU.mono hb7.size)))
      have HC2 : Hid (∀ U, Below W7.heap.size W7 U → ChkU U (.slice p n d) (.slice q m f) 22 ⟨k, se, sq, a, sp, vo⟩) := hide fun U hU => rcheck_any (HCM.out.below (HB7.out.trans (hU.mono HB7.out.size)))
      have HSA : Hid (∀ U, Below W7.heap.size W7 U → Calls Tryz.prog 23 #[.agg #[.int .i64 k, .int .i64 se, .int .i64 sq, .int .i64 a, .slice p3 n3 d3, .slice p4 n4 d4], .agg #[.int .i64 k, .int .i64 se, .int .i64 sq, .int .i64 a, .slice p n d, .slice q m f]] U fun e w' => e = .returned (.bool true) ∧ Below U.heap.size U w') := hide fun U hU => by
       have h1 := HC6.out.below (hb7.trans (hU.mono hb7.size))
       have h2 := HCM.out.below (HB7.out.trans (hU.mono HB7.out.size))
       exact same_true h1.sp h2.sp h1.vo h2.vo
      have HAW : Hid (∀ U, Below W7.heap.size W7 U → Calls Tryz.prog 15 #[] U fun e w' => e = .returned (.bool true) ∧ Below U.heap.size U w') := hide fun U hU => mawake_any (HE.out.below (HB7.out.trans (hU.mono HB7.out.size)))
      clear hby7 hb7 HRP y0 y1 y2 y3 y4 y5
      unfold ChkU ChkC cmV at HC1 HC2
      obtain ⟨EN, hEN⟩ : ∃ x, eno (Cm.ok ⟨k, se, sq, a, sp, vo⟩) 90 = x := ⟨_, rfl⟩
      rw [hEN] at HC1 HC2 ⊢
      dsimp only at HC1 HC2
      clear hEN
      go_upto_region 7 with fail
      refine wp_region_held_drew (S := (fun U => U.cell? ⟨r, 0, none⟩ = some (.int .i64 k) ∧ U.cell? ⟨r, 1, none⟩ = some (.int .i64 se) ∧ U.cell? ⟨r, 2, none⟩ = some (.int .i64 sq) ∧ U.cell? ⟨r, 3, none⟩ = some (.int .i64 a) ∧ U.cell? ⟨r, 4, none⟩ = some (.slice p3 n3 d3) ∧ U.cell? ⟨r, 5, none⟩ = some (.slice p4 n4 d4) ∧ U.cell? ⟨b, 0, none⟩ = some (.int .i64 k) ∧ U.cell? ⟨b, 1, none⟩ = some (.int .i64 se) ∧ U.cell? ⟨b, 2, none⟩ = some (.int .i64 sq) ∧ U.cell? ⟨b, 3, none⟩ = some (.int .i64 a) ∧ U.cell? ⟨b, 4, none⟩ = some (.slice p n d) ∧ U.cell? ⟨b, 5, none⟩ = some (.slice q m f))) (by kernel_rfl) (HKP.out _ (bdrew W7 1)) (fun hHeld => ?_)
      refine wpAnyH_take (i := 0) (oi := { dst := some 31, op := Op.move (Operand.tmp 4), type := 32, pos := "law.go:99", after := #[], guard := none }) (v := ?_) rfl (by kernel_rfl) (by kernel_rfl) (by kernel_rfl) (fun _ _ _ h => h) (Or.inl ⟨by rfl, ?_⟩) (by assumption) ?_
      rotate_left
      ·intro w hSw
       (try dsimp only at hSw)
       go_simp
       try with_reducible rfl
      try simp only [Act.put, List.setIfInBounds_toArray, List.set_cons_zero, List.set_cons_succ]
      refine wpAnyH_take (i := 1) (oi := { dst := some 32, op := Op.move (Operand.tmp 6), type := 32, pos := "law.go:99", after := #[], guard := none }) (v := ?_) rfl (by kernel_rfl) (by kernel_rfl) (by kernel_rfl) (fun _ _ _ h => h) (Or.inl ⟨by rfl, ?_⟩) (by assumption) ?_
      rotate_left
      ·intro w hSw
       (try dsimp only at hSw)
       go_simp
       try with_reducible rfl
      try simp only [Act.put, List.setIfInBounds_toArray, List.set_cons_zero, List.set_cons_succ]
      refine wpAnyH_ready (rs := [2]) (by kernel_rfl) (by simp) ?_
      refine AllReadyH.cons (o := { dst := some 33, op := Op.call { callee := Callee.value (Operand.func 20), args := #[Operand.tmp 31, Operand.tmp 32], argTypes := #[32, 32] }, type := 4, pos := "law.go:99", after := _, guard := none }) rfl (fun K hK => ?_) AllReadyH.nil
      go_simp
      go_at_call 20
      refine (HEQ.out _ (bdrew W7 1)).mono ?_
      rintro e1 Wz ⟨rfl, rfl⟩
      first
       | refine hK.out _ _ ?_ (fun hHeld => ?_)
       | (go_wp2_with fail; refine hK.out _ _ ?_ (fun hHeld => ?_))
      ·exact (HKP.out _ (bdrew W7 1))
      clear hK K
      try simp only [Act.put, List.setIfInBounds_toArray, List.set_cons_zero, List.set_cons_succ]
      refine wpAnyH_take (i := 3) (oi := { dst := some 34, op := Op.move (Operand.tmp 33), type := 4, pos := "law.go:99", after := _, guard := none }) (v := (.bool true)) rfl (by kernel_rfl) (by kernel_rfl) (by kernel_rfl) (fun _ _ _ h => h) (Or.inl ⟨by rfl, ?_⟩) (by assumption) ?_
      ·intro w hSw
       (try dsimp only at hSw)
       go_simp
       try with_reducible rfl
      try simp only [Act.put, List.setIfInBounds_toArray, List.set_cons_zero, List.set_cons_succ]
      refine wpAnyH_take (i := 4) (oi := { dst := some 35, op := Op.move (Operand.tmp 5), type := 33, pos := "law.go:99", after := _, guard := some (3, true) }) (v := ?_) rfl (by kernel_rfl) (by kernel_rfl) (by kernel_rfl) (fun _ _ _ h => h) (Or.inl ⟨by rfl, ?_⟩) (by assumption) ?_
      rotate_left
      ·intro w hSw
       (try dsimp only at hSw)
       go_simp
       try with_reducible rfl
      try simp only [Act.put, List.setIfInBounds_toArray, List.set_cons_zero, List.set_cons_succ]
      refine wpAnyH_take (i := 5) (oi := { dst := some 36, op := Op.move (Operand.tmp 7), type := 33, pos := "law.go:99", after := _, guard := some (3, true) }) (v := ?_) rfl (by kernel_rfl) (by kernel_rfl) (by kernel_rfl) (fun _ _ _ h => h) (Or.inl ⟨by rfl, ?_⟩) (by assumption) ?_
      rotate_left
      ·intro w hSw
       (try dsimp only at hSw)
       go_simp
       try with_reducible rfl
      try simp only [Act.put, List.setIfInBounds_toArray, List.set_cons_zero, List.set_cons_succ]
      refine wpAnyH_take (i := 6) (oi := { dst := some 37, op := Op.binOp BinOp.eql 33 (Operand.tmp 35) (Operand.tmp 36) 33, type := 4, pos := "law.go:99", after := _, guard := some (3, true) }) (v := (.bool true)) rfl (by kernel_rfl) (by kernel_rfl) (by kernel_rfl) (fun _ _ _ h => h) (Or.inl ⟨by rfl, ?_⟩) (by assumption) ?_
      ·intro w hSw
       (try dsimp only at hSw)
       go_simp
       try (first | with_reducible rfl | simp)
      try simp only [Act.put, List.setIfInBounds_toArray, List.set_cons_zero, List.set_cons_succ]
      refine wpAnyH_take (i := 7) (oi := { dst := some 38, op := Op.pick (Operand.tmp 34) (Operand.tmp 37) (Operand.const (Value.bool false)), type := 4, pos := "law.go:99", after := _, guard := none }) (v := (.bool true)) rfl (by kernel_rfl) (by kernel_rfl) (by kernel_rfl) (fun _ _ _ h => h) (Or.inl ⟨by rfl, ?_⟩) (by assumption) ?_
      ·intro w hSw
       (try dsimp only at hSw)
       go_simp
       try with_reducible rfl
      try simp only [Act.put, List.setIfInBounds_toArray, List.set_cons_zero, List.set_cons_succ]
      refine wpAnyH_take (i := 8) (oi := { dst := some 39, op := Op.move (Operand.tmp 38), type := 4, pos := "law.go:99", after := _, guard := none }) (v := (.bool true)) rfl (by kernel_rfl) (by kernel_rfl) (by kernel_rfl) (fun _ _ _ h => h) (Or.inl ⟨by rfl, ?_⟩) (by assumption) ?_
      ·intro w hSw
       (try dsimp only at hSw)
       go_simp
       try with_reducible rfl
      try simp only [Act.put, List.setIfInBounds_toArray, List.set_cons_zero, List.set_cons_succ]
      refine wpAnyH_take (i := 9) (oi := { dst := some 40, op := Op.load 25 (Operand.tmp 3), type := 25, pos := "law.go:99", after := _, guard := some (8, true) }) (v := ?_) rfl (by kernel_rfl) (by kernel_rfl) (by kernel_rfl) (fun _ _ _ h => h) (Or.inl ⟨by rfl, ?_⟩) (by assumption) ?_
      rotate_left
      ·intro w hSw
       (try dsimp only at hSw)
       go_simp
       try with_reducible rfl
      try simp only [Act.put, List.setIfInBounds_toArray, List.set_cons_zero, List.set_cons_succ]
      refine wpAnyH_take (i := 11) (oi := { dst := some 42, op := Op.load 25 (Operand.tmp 1), type := 25, pos := "law.go:99", after := _, guard := some (8, true) }) (v := ?_) rfl (by kernel_rfl) (by kernel_rfl) (by kernel_rfl) (fun _ _ _ h => h) (Or.inl ⟨by rfl, ?_⟩) (by assumption) ?_
      rotate_left
      ·intro w hSw
       (try dsimp only at hSw)
       go_simp
       try with_reducible rfl
      try simp only [Act.put, List.setIfInBounds_toArray, List.set_cons_zero, List.set_cons_succ]
      refine wpAnyH_ready (rs := [10]) (by kernel_rfl) (by simp) ?_
      refine AllReadyH.cons (o := { dst := some 41, op := Op.call { callee := Callee.value (Operand.func 21), args := #[Operand.tmp 40], argTypes := #[25] }, type := 33, pos := "law.go:99", after := _, guard := some (8, true) }) rfl (fun K hK => ?_) AllReadyH.nil
      go_simp
      go_at_call 21
      refine (HC1.out _ (bdrew W7 1)).mono ?_
      rintro e8 W8 ⟨rfl, hb8⟩
      first
       | refine hK.out _ _ ?_ (fun hHeld => ?_)
       | (go_wp2_with fail; refine hK.out _ _ ?_ (fun hHeld => ?_))
      ·exact (HKP.out _ ((bdrew W7 1).trans hb8))
      clear hK K
      try simp only [Act.put, List.setIfInBounds_toArray, List.set_cons_zero, List.set_cons_succ]
      refine wpAnyH_ready (rs := [12]) (by kernel_rfl) (by simp) ?_
      refine AllReadyH.cons (o := { dst := some 43, op := Op.call { callee := Callee.value (Operand.func 22), args := #[Operand.tmp 42], argTypes := #[25] }, type := 33, pos := "law.go:99", after := _, guard := some (8, true) }) rfl (fun K hK => ?_) AllReadyH.nil
      go_simp
      go_at_call 22
      refine (HC2.out _ ((bdrew W7 1).trans hb8)).mono ?_
      rintro e9 W9 ⟨rfl, hb9⟩
      first
       | refine hK.out _ _ ?_ (fun hHeld => ?_)
       | (go_wp2_with fail; refine hK.out _ _ ?_ (fun hHeld => ?_))
      ·exact (HKP.out _ (((bdrew W7 1).trans hb8).trans (hb9.mono ((bdrew W7 1).trans hb8).size)))
      clear hK K
      try simp only [Act.put, List.setIfInBounds_toArray, List.set_cons_zero, List.set_cons_succ]
      refine wpAnyH_take (i := 13) (oi := { dst := some 44, op := Op.binOp BinOp.eql 33 (Operand.tmp 41) (Operand.tmp 43) 33, type := 4, pos := "law.go:99", after := _, guard := some (8, true) }) (v := (.bool true)) rfl (by kernel_rfl) (by kernel_rfl) (by kernel_rfl) (fun _ _ _ h => h) (Or.inl ⟨by rfl, ?_⟩) (by assumption) ?_
      ·intro w hSw
       (try dsimp only at hSw)
       go_simp
       try (first | with_reducible rfl | simp)
      try simp only [Act.put, List.setIfInBounds_toArray, List.set_cons_zero, List.set_cons_succ]
      refine wpAnyH_take (i := 14) (oi := { dst := some 45, op := Op.pick (Operand.tmp 39) (Operand.tmp 44) (Operand.const (Value.bool false)), type := 4, pos := "law.go:99", after := _, guard := none }) (v := (.bool true)) rfl (by kernel_rfl) (by kernel_rfl) (by kernel_rfl) (fun _ _ _ h => h) (Or.inl ⟨by rfl, ?_⟩) (by assumption) ?_
      ·intro w hSw
       (try dsimp only at hSw)
       go_simp
       try with_reducible rfl
      try simp only [Act.put, List.setIfInBounds_toArray, List.set_cons_zero, List.set_cons_succ]
      refine wpAnyH_take (i := 15) (oi := { dst := some 46, op := Op.move (Operand.tmp 45), type := 4, pos := "law.go:99", after := _, guard := none }) (v := (.bool true)) rfl (by kernel_rfl) (by kernel_rfl) (by kernel_rfl) (fun _ _ _ h => h) (Or.inl ⟨by rfl, ?_⟩) (by assumption) ?_
      ·intro w hSw
       (try dsimp only at hSw)
       go_simp
       try with_reducible rfl
      try simp only [Act.put, List.setIfInBounds_toArray, List.set_cons_zero, List.set_cons_succ]
      refine wpAnyH_take (i := 16) (oi := { dst := some 47, op := Op.load 25 (Operand.tmp 3), type := 25, pos := "law.go:99", after := _, guard := some (15, true) }) (v := ?_) rfl (by kernel_rfl) (by kernel_rfl) (by kernel_rfl) (fun _ _ _ h => h) (Or.inl ⟨by rfl, ?_⟩) (by assumption) ?_
      rotate_left
      ·intro w hSw
       (try dsimp only at hSw)
       go_simp
       try with_reducible rfl
      try simp only [Act.put, List.setIfInBounds_toArray, List.set_cons_zero, List.set_cons_succ]
      refine wpAnyH_take (i := 17) (oi := { dst := some 48, op := Op.load 25 (Operand.tmp 1), type := 25, pos := "law.go:99", after := _, guard := some (15, true) }) (v := ?_) rfl (by kernel_rfl) (by kernel_rfl) (by kernel_rfl) (fun _ _ _ h => h) (Or.inl ⟨by rfl, ?_⟩) (by assumption) ?_
      rotate_left
      ·intro w hSw
       (try dsimp only at hSw)
       go_simp
       try with_reducible rfl
      try simp only [Act.put, List.setIfInBounds_toArray, List.set_cons_zero, List.set_cons_succ]
      refine wpAnyH_ready (rs := [18]) (by kernel_rfl) (by simp) ?_
      refine AllReadyH.cons (o := { dst := some 49, op := Op.call { callee := Callee.value (Operand.func 23), args := #[Operand.tmp 47, Operand.tmp 48], argTypes := #[25, 25] }, type := 4, pos := "law.go:99", after := _, guard := some (15, true) }) rfl (fun K hK => ?_) AllReadyH.nil
      go_simp
      go_at_call 23
      refine (HSA.out _ (((bdrew W7 1).trans hb8).trans (hb9.mono ((bdrew W7 1).trans hb8).size))).mono ?_
      rintro e10 W10 ⟨rfl, hb10⟩
      first
       | refine hK.out _ _ ?_ (fun hHeld => ?_)
       | (go_wp2_with fail; refine hK.out _ _ ?_ (fun hHeld => ?_))
      ·exact (HKP.out _ ((((bdrew W7 1).trans hb8).trans (hb9.mono ((bdrew W7 1).trans hb8).size)).trans (hb10.mono (((bdrew W7 1).trans hb8).trans (hb9.mono ((bdrew W7 1).trans hb8).size)).size)))
      clear hK K
      try simp only [Act.put, List.setIfInBounds_toArray, List.set_cons_zero, List.set_cons_succ]
      refine wpAnyH_take (i := 19) (oi := { dst := some 50, op := Op.pick (Operand.tmp 46) (Operand.tmp 49) (Operand.const (Value.bool false)), type := 4, pos := "law.go:99", after := _, guard := none }) (v := (.bool true)) rfl (by kernel_rfl) (by kernel_rfl) (by kernel_rfl) (fun _ _ _ h => h) (Or.inl ⟨by rfl, ?_⟩) (by assumption) ?_
      ·intro w hSw
       (try dsimp only at hSw)
       go_simp
       try with_reducible rfl
      try simp only [Act.put, List.setIfInBounds_toArray, List.set_cons_zero, List.set_cons_succ]
      refine wpAnyH_take (i := 20) (oi := { dst := some 51, op := Op.move (Operand.tmp 50), type := 4, pos := "law.go:99", after := _, guard := none }) (v := (.bool true)) rfl (by kernel_rfl) (by kernel_rfl) (by kernel_rfl) (fun _ _ _ h => h) (Or.inl ⟨by rfl, ?_⟩) (by assumption) ?_
      ·intro w hSw
       (try dsimp only at hSw)
       go_simp
       try with_reducible rfl
      try simp only [Act.put, List.setIfInBounds_toArray, List.set_cons_zero, List.set_cons_succ]
      refine wpAnyH_ready (rs := [21]) (by kernel_rfl) (by simp) ?_
      refine AllReadyH.cons (o := { dst := some 52, op := Op.call { callee := Callee.value (Operand.func 15), args := #[], argTypes := #[] }, type := 4, pos := "law.go:99", after := _, guard := some (20, true) }) rfl (fun K hK => ?_) AllReadyH.nil
      go_simp
      go_at_call 15
      refine (HAW.out _ ((((bdrew W7 1).trans hb8).trans (hb9.mono ((bdrew W7 1).trans hb8).size)).trans (hb10.mono (((bdrew W7 1).trans hb8).trans (hb9.mono ((bdrew W7 1).trans hb8).size)).size))).mono ?_
      rintro e11 W11 ⟨rfl, hb11⟩
      first
       | refine hK.out _ _ ?_ (fun hHeld => ?_)
       | (go_wp2_with fail; refine hK.out _ _ ?_ (fun hHeld => ?_))
      ·exact (HKP.out _ (((((bdrew W7 1).trans hb8).trans (hb9.mono ((bdrew W7 1).trans hb8).size)).trans (hb10.mono (((bdrew W7 1).trans hb8).trans (hb9.mono ((bdrew W7 1).trans hb8).size)).size)).trans (hb11.mono ((((bdrew W7 1).trans hb8).trans (hb9.mono ((bdrew W7 1).trans hb8).size)).trans (hb10.mono (((bdrew W7 1).trans hb8).trans (hb9.mono ((bdrew W7 1).trans hb8).size)).size)).size)))
      clear hK K
      try simp only [Act.put, List.setIfInBounds_toArray, List.set_cons_zero, List.set_cons_succ]
      refine wpAnyH_take (i := 22) (oi := { dst := some 53, op := Op.pick (Operand.tmp 51) (Operand.tmp 52) (Operand.const (Value.bool false)), type := 4, pos := "law.go:99", after := _, guard := none }) (v := (.bool true)) rfl (by kernel_rfl) (by kernel_rfl) (by kernel_rfl) (fun _ _ _ h => h) (Or.inl ⟨by rfl, ?_⟩) (by assumption) ?_
      ·intro w hSw
       (try dsimp only at hSw)
       go_simp
       try with_reducible rfl
      try simp only [Act.put, List.setIfInBounds_toArray, List.set_cons_zero, List.set_cons_succ]
      refine wpAnyH_take (i := 23) (oi := { dst := some 2, op := Op.assign (Operand.tmp 53), type := 4, pos := "law.go:99", after := _, guard := none }) (v := ?_) rfl (by kernel_rfl) (by kernel_rfl) (by kernel_rfl) (fun _ _ _ h => h) (Or.inl ⟨by rfl, ?_⟩) (by assumption) ?_
      rotate_left
      ·intro w hSw
       (try dsimp only at hSw)
       go_simp
       try with_reducible rfl
      try simp only [Act.put, List.setIfInBounds_toArray, List.set_cons_zero, List.set_cons_succ]
      refine wpAnyH_done (by kernel_rfl) ?_ _
      clear hHeld
      go_wp2
      go_ret
      exact ⟨rfl, HB7.out.trans ((((((bdrew W7 1).trans hb8).trans (hb9.mono ((bdrew W7 1).trans hb8).size)).trans (hb10.mono (((bdrew W7 1).trans hb8).trans (hb9.mono ((bdrew W7 1).trans hb8).size)).size)).trans (hb11.mono ((((bdrew W7 1).trans hb8).trans (hb9.mono ((bdrew W7 1).trans hb8).size)).trans (hb10.mono (((bdrew W7 1).trans hb8).trans (hb9.mono ((bdrew W7 1).trans hb8).size)).size)).size)).mono HB7.out.size)⟩
     exact AllReadyH.nil
    exact AllReadyH.nil
   exact AllReadyH.nil
  exact AllReadyH.nil
end Go.Proofs.YtionbmlicmibgaaGreatDoor
