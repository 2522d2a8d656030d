import Derived.Test.YtionbmlicmibgaaGreatDoorMcCmd
namespace Go.Proofs.YtionbmlicmibgaaGreatDoor
set_option linter.unusedVariables false
set_option linter.unusedSimpArgs false
open Go.RowKit
def RowN (w : World) (b : Nat) (v0 v1 v2 v3 v4 : Value) : Prop := w.heap[b]? = some (.cells #[v0, v1, v2, v3, v4] 64 (0, 0))
section
variable {w w' : World} {b : Nat} {v0 v1 v2 v3 v4 : Value}
theorem RowN.z (h : RowN w b v0 v1 v2 v3 v4) : w.cell? ⟨b, 0, none⟩ = some v0 ∧ w.cell? ⟨b, 1, none⟩ = some v1 ∧ w.cell? ⟨b, 2, none⟩ = some v2 ∧ w.cell? ⟨b, 3, none⟩ = some v3 ∧ w.cell? ⟨b, 4, none⟩ = some v4 := ⟨cell_of_row w b 0 _ 64 (0, 0) h, cell_of_row w b 1 _ 64 (0, 0) h, cell_of_row w b 2 _ 64 (0, 0) h, cell_of_row w b 3 _ 64 (0, 0) h, cell_of_row w b 4 _ 64 (0, 0) h⟩
theorem RowN.f (h : RowN w b v0 v1 v2 v3 v4) : w.frozen? ⟨b, 0, none⟩ = false ∧ w.frozen? ⟨b, 1, none⟩ = false ∧ w.frozen? ⟨b, 2, none⟩ = false ∧ w.frozen? ⟨b, 3, none⟩ = false ∧ w.frozen? ⟨b, 4, none⟩ = false := ⟨frozen_of_row w b 0 _ 64 h, frozen_of_row w b 1 _ 64 h, frozen_of_row w b 2 _ 64 h, frozen_of_row w b 3 _ 64 h, frozen_of_row w b 4 _ 64 h⟩
theorem RowN.lt (h : RowN w b v0 v1 v2 v3 v4) : b < w.heap.size := lt_of_cell h.z.1
theorem RowN.chg {S : Nat → Prop} (h : RowN w b v0 v1 v2 v3 v4) (hc : Chg w w' S) (hne : ¬ S b) : RowN w' b v0 v1 v2 v3 v4 := (hc.block b h.lt hne).trans h
theorem RowN.s0 (h : RowN w b v0 v1 v2 v3 v4) (x : Value) : RowN (w.setCell ⟨b, 0, none⟩ x) b x v1 v2 v3 v4 := by unfold RowN at *; rw [heap_setCell_same w b 0 _ 64 _ h]; rfl
theorem RowN.s1 (h : RowN w b v0 v1 v2 v3 v4) (x : Value) : RowN (w.setCell ⟨b, 1, none⟩ x) b v0 x v2 v3 v4 := by unfold RowN at *; rw [heap_setCell_same w b 1 _ 64 _ h]; rfl
theorem RowN.s2 (h : RowN w b v0 v1 v2 v3 v4) (x : Value) : RowN (w.setCell ⟨b, 2, none⟩ x) b v0 v1 x v3 v4 := by unfold RowN at *; rw [heap_setCell_same w b 2 _ 64 _ h]; rfl
theorem RowN.s3 (h : RowN w b v0 v1 v2 v3 v4) (x : Value) : RowN (w.setCell ⟨b, 3, none⟩ x) b v0 v1 v2 x v4 := by unfold RowN at *; rw [heap_setCell_same w b 3 _ 64 _ h]; rfl
theorem RowN.s4 (h : RowN w b v0 v1 v2 v3 v4) (x : Value) : RowN (w.setCell ⟨b, 4, none⟩ x) b v0 v1 v2 v3 x := by unfold RowN at *; rw [heap_setCell_same w b 4 _ 64 _ h]; rfl
end
theorem RowN.new (w : World) (v0 v1 v2 v3 v4 : Value) : RowN (w.alloc (.cells #[v0, v1, v2, v3, v4] 64)) w.heap.size v0 v1 v2 v3 v4 := heap_alloc_new _ _
theorem chgN (w : World) (b : Nat) (v0 v1 v2 v3 v4 : Value) : Chg w (((((w.setCell ⟨b, 0, none⟩ v0).setCell ⟨b, 1, none⟩ v1).setCell ⟨b, 2, none⟩ v2).setCell ⟨b, 3, none⟩ v3).setCell ⟨b, 4, none⟩ v4) fun k => k = b := chgS (chgS (chgS (chgS (chg_set _ _ _ _) (chg_set _ _ _ _)) (chg_set _ _ _ _)) (chg_set _ _ _ _)) (chg_set _ _ _ _)
set_option maxRecDepth 200000 in
set_option maxHeartbeats 40000000 in
theorem mingest_any {w : World} {P : Pm} {m : Mp} (h : McIs w P m) {k se sq a : Int} {p : Option Addr} {n d : Nat} {q : Option Addr} {mq f : Nat} {sp : List Sp} (hv : Sps w (.slice p n d) sp) (hn8 : sp.length ≤ 100000) (hnm : ∀ x ∈ sp, x.n.size ≤ 1100000) (h1 : 1 ≤ se ∧ se ≤ 1099511627776) (h2 : 1 ≤ sq ∧ sq ≤ 1099511627776) {vo : List Int} : Calls Tryz.prog 149 #[.pointer (some ⟨P.gi, 0, none⟩), .agg #[.int .i64 k, .int .i64 se, .int .i64 sq, .int .i64 a, .slice p n d, .slice q mq f]] w (CmdP w P (ingM m ⟨k, se, sq, a, sp, vo⟩)) := by
 have hA := (Below.refl w.heap.size w).alloc (Nat.le_refl _) (.cells #[.int .i64 k, .int .i64 se, .int .i64 sq, .int .i64 a, .slice p n d, .slice q mq f] 25)
 have hB := hA.alloc (o := .cells #[.int .i64 0, .int .i64 0, .int .i64 0, .int .i64 0, .int .i64 0, .int .i64 0, .int .i64 0, .int .i64 0] 66) (by simp)
 have hb := (RowC.new (k := k) (se := se) (sq := sq) (a := a) (vs := .slice p n d) (vv := .slice q mq f) w).below ((Below.refl _ _).alloc (Nat.le_refl _) (.cells #[.int .i64 0, .int .i64 0, .int .i64 0, .int .i64 0, .int .i64 0, .int .i64 0, .int .i64 0, .int .i64 0] 66))
 have hr := RowR.new (w.alloc (.cells #[.int .i64 k, .int .i64 se, .int .i64 sq, .int .i64 a, .slice p n d, .slice q mq f] 25)) rp0
 have hrs : (w.alloc (.cells #[.int .i64 k, .int .i64 se, .int .i64 sq, .int .i64 a, .slice p n d, .slice q mq f] 25)).heap.size = w.heap.size + 1 := by simp
 rw [hrs] at hr
 have HM := hide h
 have HV := hide (And.intro hv (And.intro hn8 hnm))
 obtain ⟨qr, dn, e0, hq⟩ : ∃ qr dn e0, askT m.L se sq = (qr, dn, e0) := ⟨_, _, _, rfl⟩
 have HQ := hide hq
 have H12 := hide (And.intro h1 h2)
 go_enter Tryz.func149, Tryz.ntmps149
 go_upto_region 1 with fail
 obtain ⟨X, hX⟩ : ∃ X, (w.alloc (.cells #[.int .i64 k, .int .i64 se, .int .i64 sq, .int .i64 a, .slice p n d, .slice q mq f] 25)).alloc (.cells #[.int .i64 0, .int .i64 0, .int .i64 0, .int .i64 0, .int .i64 0, .int .i64 0, .int .i64 0, .int .i64 0] 66) = X := ⟨_, rfl⟩
 have hr' : RowR X (w.heap.size + 1) rp0 := by rw [← hX]; exact hr
 have hb' : RowC X w.heap.size k se sq a (.slice p n d) (.slice q mq f) := by rw [← hX]; exact hb
 have hB' : Below w.heap.size w X := by rw [← hX]; exact hB
 obtain ⟨b, hbe⟩ : ∃ b, w.heap.size = b := ⟨_, rfl⟩
 obtain ⟨r, hre⟩ : ∃ r, b + 1 = r := ⟨_, rfl⟩
 rw [hX, hbe, hre]
 rw [hbe] at hr' hb'
 rw [hre] at hr'
 have HX := hide hB'
 have HMX := hide (h.below hB')
 have HBX := hide hb'
 have HRX := hide hr'
 have HRB : Hid (w.heap.size = b ∧ b + 1 = r ∧ (∀ k, McS P k → k < b)) := hide ⟨hbe, hre, fun k hk => by have := h.lt k hk; omega⟩
 have HKP : Hid (∀ U, Below X.heap.size X U → U.cell? ⟨P.gi, 1, none⟩ = some (.pointer (some ⟨P.gt, 0, none⟩)) ∧ U.cell? ⟨b, 1, none⟩ = some (.int .i64 se) ∧ U.cell? ⟨b, 2, none⟩ = some (.int .i64 sq)) := hide fun U hU => ⟨(HMX.out.below hU).row.c1, (HBX.out.below hU).box.2.1, (HBX.out.below hU).box.2.2.1⟩
 have HASK : Hid (∀ U, Below X.heap.size X U → Calls Tryz.prog 180 #[.pointer (some ⟨P.gt, 0, none⟩), .int .i64 se, .int .i64 sq] U fun e w' => e = .returned (.tuple #[rpV qr, .bool dn, .int .i64 e0]) ∧ Below U.heap.size U w') := hide fun U hU => by
  have hh := ses_ask_any (HMX.out.below hU).tb (n := se) (m := sq) (WalkArith.wf_i64 (by omega)) (by omega) (by omega)
  unfold AskPost at hh
  rw [hq] at hh
  exact hh
 clear h hA hB hb hr hrs hr' hb' hB' hX hbe hre hv hn8 hnm h1 h2 hq
 have HALX : Hid (Below X.heap.size X (X.alloc (.cells #[.int .i64 0, .int .i64 0, .int .i64 0, .int .i64 0, .int .i64 0, .int .i64 0, .int .i64 0, .int .i64 0] 66))) := hide ((Below.refl _ _).alloc (Nat.le_refl _) _)
 refine wp_region_held_drew (S := (fun U => U.cell? ⟨P.gi, 1, none⟩ = some (.pointer (some ⟨P.gt, 0, none⟩)) ∧ U.cell? ⟨b, 1, none⟩ = some (.int .i64 se) ∧ U.cell? ⟨b, 2, none⟩ = some (.int .i64 sq))) (by kernel_rfl) ?_ (fun hHeld => ?_)
 ·(try dsimp only)
  exact HKP.out _ (bdrew X 1)
 refine tkI (i := 0) (oi := ⟨some 13, Op.move (Operand.tmp 0), 97, _, _, none⟩) (v := ?_) rfl (by rfl) ?_ ?_
 rotate_left
 ·intro w hSw
  (try dsimp only at hSw)
  go_simp
  try with_reducible rfl
 try simp only [Act.put, qA, qB, qC]
 refine tkI (i := 1) (oi := ⟨some 14, Op.nilCheck (Operand.tmp 13), 0, _, _, none⟩) (v := ?_) rfl (by rfl) ?_ ?_
 rotate_left
 ·intro w hSw
  (try dsimp only at hSw)
  go_simp
  try with_reducible rfl
 try simp only [Act.put, qA, qB, qC]
 refine tkI (i := 2) (oi := ⟨some 15, Op.fieldAddr 131 (Operand.tmp 14) 1, 0, _, _, none⟩) (v := ?_) rfl (by rfl) ?_ ?_
 rotate_left
 ·intro w hSw
  (try dsimp only at hSw)
  go_simp
  try with_reducible rfl
 try simp only [Act.put, qA, qB, qC]
 refine tkI (i := 3) (oi := ⟨some 16, Op.load 128 (Operand.tmp 15), 128, _, _, none⟩) (v := ?_) rfl (by rfl) ?_ ?_
 rotate_left
 ·intro w hSw
  (try dsimp only at hSw)
  go_simp
  try with_reducible rfl
 try simp only [Act.put, qA, qB, qC]
 refine tkI (i := 4) (oi := ⟨some 17, Op.fieldAddr 25 (Operand.tmp 3) 1, 0, _, _, none⟩) (v := ?_) rfl (by rfl) ?_ ?_
 rotate_left
 ·intro w hSw
  (try dsimp only at hSw)
  go_simp
  try with_reducible rfl
 try simp only [Act.put, qA, qB, qC]
 refine tkI (i := 5) (oi := ⟨some 18, Op.load 3 (Operand.tmp 17), 3, _, _, none⟩) (v := ?_) rfl (by rfl) ?_ ?_
 rotate_left
 ·intro w hSw
  (try dsimp only at hSw)
  go_simp
  try with_reducible rfl
 try simp only [Act.put, qA, qB, qC]
 refine tkI (i := 6) (oi := ⟨some 19, Op.fieldAddr 25 (Operand.tmp 3) 2, 0, _, _, none⟩) (v := ?_) rfl (by rfl) ?_ ?_
 rotate_left
 ·intro w hSw
  (try dsimp only at hSw)
  go_simp
  try with_reducible rfl
 try simp only [Act.put, qA, qB, qC]
 refine tkI (i := 7) (oi := ⟨some 20, Op.load 3 (Operand.tmp 19), 3, _, _, none⟩) (v := ?_) rfl (by rfl) ?_ ?_
 rotate_left
 ·intro w hSw
  (try dsimp only at hSw)
  go_simp
  try with_reducible rfl
 try simp only [Act.put, qA, qB, qC]
 refine wpAnyH_ready (rs := [8, 13]) (by kernel_rfl) (by simp) ?_
 refine AllReadyH.cons (o := ⟨some 21, Op.call { callee := Callee.value (Operand.func 180), args := #[Operand.tmp 16, Operand.tmp 18, Operand.tmp 20], argTypes := #[128, 3, 3] }, 139, _, _, none⟩) rfl (fun K hK => ?_) ?_
 ·go_simp
  go_at_call 180
  refine (HASK.out _ (bdrew X 1)).mono ?_
  rintro e5 w5 ⟨rfl, hb5⟩
  unfold rpV
  have HB5 : Hid (Below X.heap.size X w5) := hide ((bdrew X 1).trans hb5)
  have HB6 : Hid (Below X.heap.size X (w5.alloc (.cells #[.int .i64 0, .int .i64 0, .int .i64 0, .int .i64 0, .int .i64 0, .int .i64 0, .int .i64 0, .int .i64 0] 66))) := hide (HB5.out.alloc HB5.out.size _)
  first
   | refine hK.out _ _ ?_ (fun hHeld => ?_)
   | (go_wp2_with fail; refine hK.out _ _ ?_ (fun hHeld => ?_))
  ·(try dsimp only)
   exact HKP.out _ HB5.out
  clear hK K
  try simp only [Act.put, qA, qB, qC]
  refine tkI (i := 9) (oi := ⟨some 12, Op.move (Operand.tmp 21), 139, _, _, none⟩) (v := ?_) rfl (by rfl) ?_ ?_
  rotate_left
  ·intro w hSw
   (try dsimp only at hSw)
   go_simp
   try with_reducible rfl
  try simp only [Act.put, qA, qB, qC]
  refine tkI (i := 10) (oi := ⟨some 22, Op.extract (Operand.tmp 12) 0, 66, _, _, none⟩) (v := ?_) rfl (by rfl) ?_ ?_
  rotate_left
  ·intro w hSw
   (try dsimp only at hSw)
   go_simp
   try with_reducible rfl
  try simp only [Act.put, qA, qB, qC]
  refine tkI (i := 11) (oi := ⟨some 23, Op.extract (Operand.tmp 12) 1, 4, _, _, none⟩) (v := ?_) rfl (by rfl) ?_ ?_
  rotate_left
  ·intro w hSw
   (try dsimp only at hSw)
   go_simp
   try with_reducible rfl
  try simp only [Act.put, qA, qB, qC]
  refine tkI (i := 12) (oi := ⟨some 24, Op.extract (Operand.tmp 12) 2, 33, _, _, none⟩) (v := ?_) rfl (by rfl) ?_ ?_
  rotate_left
  ·intro w hSw
   (try dsimp only at hSw)
   go_simp
   try with_reducible rfl
  try simp only [Act.put, qA, qB, qC]
  refine wpAnyH_ready (rs := [13]) (by kernel_rfl) (by simp) ?_
  refine AllReadyH.cons (o := ⟨some 6, Op.alloc 66, 0, _, _, none⟩) rfl (fun K hK => ?_) ?_
  ·go_simp
   first
    | refine hK.out _ _ ?_ (fun hHeld => ?_)
    | (go_wp2_with fail; refine hK.out _ _ ?_ (fun hHeld => ?_))
   ·(try dsimp only)
    exact HKP.out _ HB6.out
   clear hK K
   try simp only [Act.put, qA, qB, qC]
   refine wpAnyH_ready (rs := [14]) (by kernel_rfl) (by simp) ?_
   refine AllReadyH.cons (o := ⟨none, Op.store 66 (Operand.tmp 6) (Operand.tmp 22), 0, _, _, none⟩) rfl (fun K hK => ?_) ?_
   ·go_simp
    first
     | refine hK.out _ _ ?_ (fun hHeld => ?_)
     | (go_wp2_with fail; refine hK.out _ _ ?_ (fun hHeld => ?_))
    ·(try dsimp only)
     exact HKP.out _ (HB5.out.alloc HB5.out.size _)
    clear hK K
    try simp only [Act.put, qA, qB, qC]
    refine tkI (i := 15) (oi := ⟨some 7, Op.assign (Operand.tmp 23), 4, _, _, none⟩) (v := ?_) rfl (by rfl) ?_ ?_
    rotate_left
    ·intro w hSw
     (try dsimp only at hSw)
     go_simp
     try with_reducible rfl
    try simp only [Act.put, qA, qB, qC]
    refine tkI (i := 16) (oi := ⟨some 8, Op.assign (Operand.tmp 24), 33, _, _, none⟩) (v := ?_) rfl (by rfl) ?_ ?_
    rotate_left
    ·intro w hSw
     (try dsimp only at hSw)
     go_simp
     try with_reducible rfl
    try simp only [Act.put, qA, qB, qC]
    refine wpAnyH_done (by kernel_rfl) ?_ _
    have hst := RowR.new w5 qr
    have hxy : Below X.heap.size X (w5.alloc (.cells #[.int .i64 qr.er, .int .i64 qr.rs, .int .i64 qr.gn, .int .i64 qr.ad, .int .i64 qr.sa, .int .i64 qr.ot, .int .i64 qr.cy, .int .i64 qr.fu] 66)) := HB5.out.alloc HB5.out.size _
    generalize w5.alloc (.cells #[.int .i64 qr.er, .int .i64 qr.rs, .int .i64 qr.gn, .int .i64 qr.ad, .int .i64 qr.sa, .int .i64 qr.ot, .int .i64 qr.cy, .int .i64 qr.fu] 66) = Y at hst hxy ⊢
    obtain ⟨b6, hb6⟩ : ∃ b, w5.heap.size = b := ⟨_, rfl⟩
    rw [hb6] at hst ⊢
    clear HB6
    have HB6 : Hid (X.heap.size ≤ b6) := hide (by rw [← hb6]; exact HB5.out.size)
    clear hb6
    have HRY := hide (HRX.out.below hxy)
    have HMY := hide (HMX.out.below hxy)
    have HBY := hide (HBX.out.below hxy)
    have HST := hide hst
    have HWY := hide (HX.out.trans (hxy.mono HX.out.size))
    clear hst hxy hHeld HASK HKP HALX
    by_cases h0 : e0 = 0
    ·subst h0
     cases hdn : dn
     ·subst hdn
      have HI : Hid (ingM m ⟨k, se, sq, a, sp, vo⟩ = (rpN (ingC m.S sp), (keepT m.L se sq m.ix (rpN (ingC m.S sp))).1, { m with S := ingS m.S sp, L := (keepT m.L se sq m.ix (rpN (ingC m.S sp))).2 })) := hide (by
        have h1 := HQ.out
        unfold ingM
        dsimp only
        rw [h1]
        exact if_neg (fun e => by rcases e with e | e <;> simp at e))
      obtain ⟨C, hC⟩ : ∃ C, ingC m.S sp = C := ⟨_, rfl⟩
      obtain ⟨S1, hS1⟩ : ∃ S, ingS m.S sp = S := ⟨_, rfl⟩
      rw [hC, hS1] at HI
      have HOP : Hid (∀ U, Below Y.heap.size Y U → Calls Tryz.prog 181 #[.pointer (some ⟨P.gs, 0, none⟩), .slice p n d] U (fun e w' => e = .returned (.tuple #[cnV C, .int .i64 (ingE sp)]) ∧ ∃ R', SoTo U w' P.gs P.bm P.R R' S1)) := hide fun U hU => by
        have hh := singest_any (HMY.out.below hU).so (HV.out.1.below (HWY.out.trans (hU.mono HWY.out.size))) HV.out.2.1 HV.out.2.2
        unfold IngPost at hh
        rw [HM.out.pl, hC, hS1] at hh
        exact hh
      have HKY : Hid (∀ U, Below Y.heap.size Y U → U.cell? ⟨P.gi, 0, none⟩ = some (.pointer (some ⟨P.gs, 0, none⟩)) ∧ U.cell? ⟨b, 4, none⟩ = some (.slice p n d)) := hide fun U hU => ⟨(HMY.out.below hU).row.c0, (HBY.out.below hU).box.2.2.2.2.1⟩
      have HALY : Hid (Below Y.heap.size Y (Y.alloc (.cells #[.int .i64 0, .int .i64 0, .int .i64 0, .int .i64 0, .int .i64 0] 64))) := hide ((Below.refl _ _).alloc (Nat.le_refl _) _)
      clear hC hS1
      go_upto_region 4 with fail
      refine wp_region_held_drew (S := (fun U => U.cell? ⟨P.gi, 0, none⟩ = some (.pointer (some ⟨P.gs, 0, none⟩)) ∧ U.cell? ⟨b, 4, none⟩ = some (.slice p n d))) (by kernel_rfl) ?_ (fun hHeld => ?_)
      ·(try dsimp only)
       exact HKY.out _ (bdrew Y 1)
      refine tkI (i := 0) (oi := ⟨some 34, Op.move (Operand.tmp 0), 97, _, _, none⟩) (v := ?_) rfl (by rfl) ?_ ?_
      rotate_left
      ·intro w hSw
       (try dsimp only at hSw)
       go_simp
       try with_reducible rfl
      try simp only [Act.put, qA, qB, qC]
      refine tkI (i := 1) (oi := ⟨some 35, Op.nilCheck (Operand.tmp 34), 0, _, _, none⟩) (v := ?_) rfl (by rfl) ?_ ?_
      rotate_left
      ·intro w hSw
       (try dsimp only at hSw)
       go_simp
       try with_reducible rfl
      try simp only [Act.put, qA, qB, qC]
      refine tkI (i := 2) (oi := ⟨some 36, Op.fieldAddr 131 (Operand.tmp 35) 0, 0, _, _, none⟩) (v := ?_) rfl (by rfl) ?_ ?_
      rotate_left
      ·intro w hSw
       (try dsimp only at hSw)
       go_simp
       try with_reducible rfl
      try simp only [Act.put, qA, qB, qC]
      refine tkI (i := 3) (oi := ⟨some 37, Op.load 126 (Operand.tmp 36), 126, _, _, none⟩) (v := ?_) rfl (by rfl) ?_ ?_
      rotate_left
      ·intro w hSw
       (try dsimp only at hSw)
       go_simp
       try with_reducible rfl
      try simp only [Act.put, qA, qB, qC]
      refine tkI (i := 4) (oi := ⟨some 38, Op.fieldAddr 25 (Operand.tmp 3) 4, 0, _, _, none⟩) (v := ?_) rfl (by rfl) ?_ ?_
      rotate_left
      ·intro w hSw
       (try dsimp only at hSw)
       go_simp
       try with_reducible rfl
      try simp only [Act.put, qA, qB, qC]
      refine tkI (i := 5) (oi := ⟨some 39, Op.load 22 (Operand.tmp 38), 22, _, _, none⟩) (v := ?_) rfl (by rfl) ?_ ?_
      rotate_left
      ·intro w hSw
       (try dsimp only at hSw)
       go_simp
       try with_reducible rfl
      try simp only [Act.put, qA, qB, qC]
      refine wpAnyH_ready (rs := [6, 10]) (by kernel_rfl) (by simp) ?_
      refine AllReadyH.cons (o := ⟨some 40, Op.call { callee := Callee.value (Operand.func 181), args := #[Operand.tmp 37, Operand.tmp 39], argTypes := #[126, 22] }, 141, _, _, none⟩) rfl (fun K hK => ?_) ?_
      ·go_simp
       go_at_call 181
       refine (HOP.out _ (show Below Y.heap.size Y Y.drew from bdrew Y 1)).mono ?_
       rintro e5 w5 ⟨rfl, R', ht5⟩
       unfold cnV
       have HT5 : Hid (McTo w w5 P { P with R := R' } { m with S := S1 }) := hide ((((HMY.out.below (show Below Y.heap.size Y Y.drew from bdrew Y 1)).sto ht5)).from (HWY.out.trans ((show Below Y.heap.size Y Y.drew from bdrew Y 1).mono HWY.out.size)))
       have HC5 : Hid (Chg _ w5 (SoM P.bm P.R)) := hide ht5.chg
       have HR5 := hide ((HRY.out.below (show Below Y.heap.size Y Y.drew from bdrew Y 1)).chg ht5.chg ((HMY.out.below (show Below Y.heap.size Y Y.drew from bdrew Y 1)).so.ne_cell (HRY.out.below (show Below Y.heap.size Y Y.drew from bdrew Y 1)).z.1))
       have HB5c := hide ((HBY.out.below (show Below Y.heap.size Y Y.drew from bdrew Y 1)).chg ht5.chg ((HMY.out.below (show Below Y.heap.size Y Y.drew from bdrew Y 1)).so.ne_cell (HBY.out.below (show Below Y.heap.size Y Y.drew from bdrew Y 1)).box.1))
       have HS5 : Hid (Y.heap.size ≤ w5.heap.size) := hide (Nat.le_trans (show Below Y.heap.size Y Y.drew from bdrew Y 1).size ht5.chg.size)
       have HNR : Hid (¬ McS { P with R := R' } r) := hide (fun hk => by
         rcases ((HMY.out.below (show Below Y.heap.size Y Y.drew from bdrew Y 1)).sto ht5).new _ hk with e | e
         ·have := HRB.out.2.2 r e; have := HRB.out.2.1; omega
         ·exact absurd (Nat.lt_of_lt_of_le HRY.out.lt (Nat.le_trans (show Below Y.heap.size Y Y.drew from bdrew Y 1).size e)) (Nat.lt_irrefl _))
       have HK5 : Hid (w5.cell? ⟨P.gi, 0, none⟩ = some (.pointer (some ⟨P.gs, 0, none⟩)) ∧ w5.cell? ⟨b, 4, none⟩ = some (.slice p n d)) := hide ⟨(HMY.out.below (show Below Y.heap.size Y Y.drew from bdrew Y 1)).so.keep ht5.chg (HMY.out.below (show Below Y.heap.size Y Y.drew from bdrew Y 1)).row.c0, HB5c.out.box.2.2.2.2.1⟩
       clear ht5
       first
        | refine hK.out _ _ ?_ (fun hHeld => ?_)
        | (go_wp2_with fail; refine hK.out _ _ ?_ (fun hHeld => ?_))
       ·(try dsimp only)
        exact HK5.out
       clear hK K
       try simp only [Act.put, qA, qB, qC]
       refine tkI (i := 7) (oi := ⟨some 33, Op.move (Operand.tmp 40), 141, _, _, none⟩) (v := ?_) rfl (by rfl) ?_ ?_
       rotate_left
       ·intro w hSw
        (try dsimp only at hSw)
        go_simp
        try with_reducible rfl
       try simp only [Act.put, qA, qB, qC]
       refine tkI (i := 8) (oi := ⟨some 41, Op.extract (Operand.tmp 33) 0, 64, _, _, none⟩) (v := ?_) rfl (by rfl) ?_ ?_
       rotate_left
       ·intro w hSw
        (try dsimp only at hSw)
        go_simp
        try with_reducible rfl
       try simp only [Act.put, qA, qB, qC]
       refine tkI (i := 9) (oi := ⟨some 42, Op.extract (Operand.tmp 33) 1, 33, _, _, none⟩) (v := ?_) rfl (by rfl) ?_ ?_
       rotate_left
       ·intro w hSw
        (try dsimp only at hSw)
        go_simp
        try with_reducible rfl
       try simp only [Act.put, qA, qB, qC]
       refine wpAnyH_ready (rs := [10]) (by kernel_rfl) (by simp) ?_
       refine AllReadyH.cons (o := ⟨some 9, Op.alloc 64, 0, _, _, none⟩) rfl (fun K hK => ?_) ?_
       ·go_simp
        first
         | refine hK.out _ _ ?_ (fun hHeld => ?_)
         | (go_wp2_with fail; refine hK.out _ _ ?_ (fun hHeld => ?_))
        ·(try dsimp only)
         exact ⟨(Chg.of_below ((Below.refl w5.heap.size w5).alloc (Nat.le_refl _) _) (fun _ => False)).cell HK5.out.1 (fun e => e), (Chg.of_below ((Below.refl w5.heap.size w5).alloc (Nat.le_refl _) _) (fun _ => False)).cell HK5.out.2 (fun e => e)⟩
        clear hK K
        try simp only [Act.put, qA, qB, qC]
        refine wpAnyH_ready (rs := [11]) (by kernel_rfl) (by simp) ?_
        refine AllReadyH.cons (o := ⟨none, Op.store 64 (Operand.tmp 9) (Operand.tmp 41), 0, _, _, none⟩) rfl (fun K hK => ?_) ?_
        ·go_simp
         first
          | refine hK.out _ _ ?_ (fun hHeld => ?_)
          | (go_wp2_with fail; refine hK.out _ _ ?_ (fun hHeld => ?_))
         ·(try dsimp only)
          exact ⟨(Chg.of_below ((Below.refl w5.heap.size w5).alloc (Nat.le_refl _) _) (fun _ => False)).cell HK5.out.1 (fun e => e), (Chg.of_below ((Below.refl w5.heap.size w5).alloc (Nat.le_refl _) _) (fun _ => False)).cell HK5.out.2 (fun e => e)⟩
         clear hK K
         try simp only [Act.put, qA, qB, qC]
         refine tkI (i := 12) (oi := ⟨some 10, Op.assign (Operand.tmp 42), 33, _, _, none⟩) (v := ?_) rfl (by rfl) ?_ ?_
         rotate_left
         ·intro w hSw
          (try dsimp only at hSw)
          go_simp
          try with_reducible rfl
         try simp only [Act.put, qA, qB, qC]
         refine wpAnyH_done (by kernel_rfl) ?_ _
         have hst := RowN.new w5 (.int .i64 (C.add : Nat)) (.int .i64 (C.same : Nat)) (.int .i64 (C.other : Nat)) (.int .i64 (C.cyc : Nat)) (.int .i64 (C.full : Nat))
         have hbl : Below w5.heap.size w5 (w5.alloc (.cells #[.int .i64 (C.add : Nat), .int .i64 (C.same : Nat), .int .i64 (C.other : Nat), .int .i64 (C.cyc : Nat), .int .i64 (C.full : Nat)] 64)) := (Below.refl w5.heap.size w5).alloc (Nat.le_refl _) _
         have htz := HT5.out.below hbl
         have hrz := HR5.out.below hbl
         have hbz := HB5c.out.below hbl
         generalize w5.alloc (.cells #[.int .i64 (C.add : Nat), .int .i64 (C.same : Nat), .int .i64 (C.other : Nat), .int .i64 (C.cyc : Nat), .int .i64 (C.full : Nat)] 64) = Z at hst htz hrz hbz hbl ⊢
         obtain ⟨b9, hb9⟩ : ∃ b, w5.heap.size = b := ⟨_, rfl⟩
         rw [hb9] at hst ⊢
         clear hb9 hbl
         obtain ⟨z0, z1, z2, z3, z4⟩ := hst.z
         have HTZ := hide htz
         have HRZ := hide hrz
         have HBZ := hide hbz
         clear hst htz hrz hbz HKY HOP HALY hHeld
         go_upto_region 6 with fail
         have hqq : RowR (Z.alloc (.cells #[.int .i64 0, .int .i64 0, .int .i64 0, .int .i64 (C.add : Nat), .int .i64 (C.same : Nat), .int .i64 (C.other : Nat), .int .i64 (C.cyc : Nat), .int .i64 (C.full : Nat)] 66)) Z.heap.size (rpN C) := RowR.new Z (rpN C)
         have hbl : Below Z.heap.size Z (Z.alloc (.cells #[.int .i64 0, .int .i64 0, .int .i64 0, .int .i64 (C.add : Nat), .int .i64 (C.same : Nat), .int .i64 (C.other : Nat), .int .i64 (C.cyc : Nat), .int .i64 (C.full : Nat)] 66)) := (Below.refl Z.heap.size Z).alloc (Nat.le_refl _) _
         generalize Z.alloc (.cells #[.int .i64 0, .int .i64 0, .int .i64 0, .int .i64 (C.add : Nat), .int .i64 (C.same : Nat), .int .i64 (C.other : Nat), .int .i64 (C.cyc : Nat), .int .i64 (C.full : Nat)] 66) = Q at hqq hbl ⊢
         obtain ⟨b11, hb11⟩ : ∃ b, Z.heap.size = b := ⟨_, rfl⟩
         have HNB : Hid (¬ r = P.bt ∧ ¬ b11 = P.bt ∧ ¬ b = P.bt) := hide (by
           have h1 := HRB.out
           have h2 := h1.2.2 P.bt (.inr (.inr (.inl rfl)))
           have h3 := HTZ.out.is.lt P.bt (.inr (.inr (.inl rfl)))
           exact ⟨by omega, by omega, by omega⟩)
         have HNB2 : Hid (¬ P.gi = r ∧ ¬ b = r ∧ ¬ b11 = r) := hide (by
           have h1 := HRB.out
           have h2 := h1.2.2 P.gi (.inl rfl)
           have h3 := HRZ.out.lt
           exact ⟨by omega, by omega, by omega⟩)
         have HTQ := hide (HTZ.out.below hbl)
         have HRQ := hide (HRZ.out.below hbl)
         have HBQ := hide (HBZ.out.below hbl)
         have HMQ := hide (HTZ.out.is.below hbl)
         rw [hb11] at hqq ⊢
         have HQQ := hide hqq
         obtain ⟨ix, hix⟩ : ∃ i, m.ix = i := ⟨_, rfl⟩
         obtain ⟨E1, L1, hE⟩ : ∃ E L, keepT m.L se sq m.ix (rpN C) = (E, L) := ⟨_, _, rfl⟩
         have HI2 : Hid (ingM m ⟨k, se, sq, a, sp, vo⟩ = (rpN C, E1, { m with S := S1, L := L1 })) := hide (by rw [HI.out, hE])
         have HCQ : Hid (Q.cell? ⟨P.gi, 1, none⟩ = some (.pointer (some ⟨P.gt, 0, none⟩)) ∧ Q.cell? ⟨P.gi, 2, none⟩ = some (.int .i64 ix)) := hide ⟨HMQ.out.row.c1, by rw [← hix]; exact HMQ.out.row.c2⟩
         have HKE : Hid (Calls Tryz.prog 182 #[.pointer (some ⟨P.gt, 0, none⟩), .int .i64 se, .int .i64 sq, .int .i64 ix, .agg #[.int .i64 0, .int .i64 0, .int .i64 0, .int .i64 (C.add : Nat), .int .i64 (C.same : Nat), .int .i64 (C.other : Nat), .int .i64 (C.cyc : Nat), .int .i64 (C.full : Nat)]] Q.drew (TabPost Q.drew P.gt P.bt E1 L1)) := hide (by
           have hh := ses_keep_any (HMQ.out.drewN 1).tb (n := se) (m := sq) (a := m.ix) (r := rpN C) (WalkArith.wf_i64 (by have := H12.out; omega)) (by have := H12.out; omega) (by have := H12.out; omega)
           dsimp only at hh
           rw [hE, hix] at hh
           exact hh)
         clear hix hE hqq hbl z0 z1 z2 z3 z4
         refine wp_region_held_drew (S := (fun U => U.cell? ⟨P.gi, 1, none⟩ = some (.pointer (some ⟨P.gt, 0, none⟩)) ∧ U.cell? ⟨P.gi, 2, none⟩ = some (.int .i64 ix) ∧ U.cell? ⟨b, 1, none⟩ = some (.int .i64 se) ∧ U.cell? ⟨b, 2, none⟩ = some (.int .i64 sq) ∧ U.cell? ⟨b11, 0, none⟩ = some (.int .i64 0) ∧ U.cell? ⟨b11, 1, none⟩ = some (.int .i64 0) ∧ U.cell? ⟨b11, 2, none⟩ = some (.int .i64 0) ∧ U.cell? ⟨b11, 3, none⟩ = some (.int .i64 (C.add : Nat)) ∧ U.cell? ⟨b11, 4, none⟩ = some (.int .i64 (C.same : Nat)) ∧ U.cell? ⟨b11, 5, none⟩ = some (.int .i64 (C.other : Nat)) ∧ U.cell? ⟨b11, 6, none⟩ = some (.int .i64 (C.cyc : Nat)) ∧ U.cell? ⟨b11, 7, none⟩ = some (.int .i64 (C.full : Nat)))) (by kernel_rfl) ?_ (fun hHeld => ?_)
         ·(try dsimp only)
          exact ⟨HCQ.out.1, HCQ.out.2, HBQ.out.box.2.1, HBQ.out.box.2.2.1, HQQ.out.z⟩
         refine tkI (i := 0) (oi := ⟨some 45, Op.load 66 (Operand.tmp 11), 66, _, _, none⟩) (v := (.agg #[.int .i64 0, .int .i64 0, .int .i64 0, .int .i64 (C.add : Nat), .int .i64 (C.same : Nat), .int .i64 (C.other : Nat), .int .i64 (C.cyc : Nat), .int .i64 (C.full : Nat)])) rfl (by rfl) ?_ ?_
         ·intro w hSw
          (try dsimp only at hSw)
          go_simp
          try with_reducible rfl
         try simp only [Act.put, qA, qB, qC]
         refine tkI (i := 1) (oi := ⟨some 46, Op.move (Operand.tmp 0), 97, _, _, none⟩) (v := ?_) rfl (by rfl) ?_ ?_
         rotate_left
         ·intro w hSw
          (try dsimp only at hSw)
          go_simp
          try with_reducible rfl
         try simp only [Act.put, qA, qB, qC]
         refine tkI (i := 2) (oi := ⟨some 47, Op.nilCheck (Operand.tmp 46), 0, _, _, none⟩) (v := ?_) rfl (by rfl) ?_ ?_
         rotate_left
         ·intro w hSw
          (try dsimp only at hSw)
          go_simp
          try with_reducible rfl
         try simp only [Act.put, qA, qB, qC]
         refine tkI (i := 3) (oi := ⟨some 48, Op.fieldAddr 131 (Operand.tmp 47) 1, 0, _, _, none⟩) (v := ?_) rfl (by rfl) ?_ ?_
         rotate_left
         ·intro w hSw
          (try dsimp only at hSw)
          go_simp
          try with_reducible rfl
         try simp only [Act.put, qA, qB, qC]
         refine tkI (i := 4) (oi := ⟨some 49, Op.load 128 (Operand.tmp 48), 128, _, _, none⟩) (v := ?_) rfl (by rfl) ?_ ?_
         rotate_left
         ·intro w hSw
          (try dsimp only at hSw)
          go_simp
          try with_reducible rfl
         try simp only [Act.put, qA, qB, qC]
         refine tkI (i := 5) (oi := ⟨some 50, Op.fieldAddr 25 (Operand.tmp 3) 1, 0, _, _, none⟩) (v := ?_) rfl (by rfl) ?_ ?_
         rotate_left
         ·intro w hSw
          (try dsimp only at hSw)
          go_simp
          try with_reducible rfl
         try simp only [Act.put, qA, qB, qC]
         refine tkI (i := 6) (oi := ⟨some 51, Op.load 3 (Operand.tmp 50), 3, _, _, none⟩) (v := ?_) rfl (by rfl) ?_ ?_
         rotate_left
         ·intro w hSw
          (try dsimp only at hSw)
          go_simp
          try with_reducible rfl
         try simp only [Act.put, qA, qB, qC]
         refine tkI (i := 7) (oi := ⟨some 52, Op.fieldAddr 25 (Operand.tmp 3) 2, 0, _, _, none⟩) (v := ?_) rfl (by rfl) ?_ ?_
         rotate_left
         ·intro w hSw
          (try dsimp only at hSw)
          go_simp
          try with_reducible rfl
         try simp only [Act.put, qA, qB, qC]
         refine tkI (i := 8) (oi := ⟨some 53, Op.load 3 (Operand.tmp 52), 3, _, _, none⟩) (v := ?_) rfl (by rfl) ?_ ?_
         rotate_left
         ·intro w hSw
          (try dsimp only at hSw)
          go_simp
          try with_reducible rfl
         try simp only [Act.put, qA, qB, qC]
         refine tkI (i := 9) (oi := ⟨some 54, Op.move (Operand.tmp 0), 97, _, _, none⟩) (v := ?_) rfl (by rfl) ?_ ?_
         rotate_left
         ·intro w hSw
          (try dsimp only at hSw)
          go_simp
          try with_reducible rfl
         try simp only [Act.put, qA, qB, qC]
         refine tkI (i := 10) (oi := ⟨some 55, Op.nilCheck (Operand.tmp 54), 0, _, _, none⟩) (v := ?_) rfl (by rfl) ?_ ?_
         rotate_left
         ·intro w hSw
          (try dsimp only at hSw)
          go_simp
          try with_reducible rfl
         try simp only [Act.put, qA, qB, qC]
         refine tkI (i := 11) (oi := ⟨some 56, Op.fieldAddr 131 (Operand.tmp 55) 2, 0, _, _, none⟩) (v := ?_) rfl (by rfl) ?_ ?_
         rotate_left
         ·intro w hSw
          (try dsimp only at hSw)
          go_simp
          try with_reducible rfl
         try simp only [Act.put, qA, qB, qC]
         refine tkI (i := 12) (oi := ⟨some 57, Op.load 3 (Operand.tmp 56), 3, _, _, none⟩) (v := ?_) rfl (by rfl) ?_ ?_
         rotate_left
         ·intro w hSw
          (try dsimp only at hSw)
          go_simp
          try with_reducible rfl
         try simp only [Act.put, qA, qB, qC]
         refine tkI (i := 13) (oi := ⟨some 58, Op.load 66 (Operand.tmp 11), 66, _, _, none⟩) (v := (.agg #[.int .i64 0, .int .i64 0, .int .i64 0, .int .i64 (C.add : Nat), .int .i64 (C.same : Nat), .int .i64 (C.other : Nat), .int .i64 (C.cyc : Nat), .int .i64 (C.full : Nat)])) rfl (by rfl) ?_ ?_
         ·intro w hSw
          (try dsimp only at hSw)
          go_simp
          try with_reducible rfl
         try simp only [Act.put, qA, qB, qC]
         refine wpAnyH_ready (rs := [14]) (by kernel_rfl) (by simp) ?_
         refine AllReadyH.cons (o := ⟨some 59, Op.call { callee := Callee.value (Operand.func 182), args := #[Operand.tmp 49, Operand.tmp 51, Operand.tmp 53, Operand.tmp 57, Operand.tmp 58], argTypes := #[128, 3, 3, 3, 66] }, 33, _, _, none⟩) rfl (fun K hK => ?_) ?_
         ·go_simp
          go_at_call 182
          refine (HKE.out).mono ?_
          rintro e6 w6 ⟨rfl, ht6, hc6⟩
          have HT6 : Hid (McTo w w6 P { P with R := R' } { m with S := S1, L := L1 }) := hide ⟨((HMQ.out.drewN 1).tab ht6 hc6).is, rfl, (HTQ.out.below (bdrew Q 1)).chg.trans hc6 (fun k e => .inl (.inr (.inl e))), HTQ.out.new⟩
          have HR6 := hide ((show RowR Q.drew r rp0 from HRQ.out).chg hc6 HNB.out.1)
          have HQ6 := hide ((show RowR Q.drew b11 (rpN C) from HQQ.out).chg hc6 HNB.out.2.1)
          have HB6q := hide ((show RowC Q.drew b k se sq a (.slice p n d) (.slice q mq f) from HBQ.out).chg hc6 HNB.out.2.2)
          have HM6 : Hid (w6.cell? ⟨P.gi, 1, none⟩ = some (.pointer (some ⟨P.gt, 0, none⟩)) ∧ w6.cell? ⟨P.gi, 2, none⟩ = some (.int .i64 ix)) := hide ⟨hc6.cell HCQ.out.1 HMQ.out.a2.2, hc6.cell HCQ.out.2 HMQ.out.a2.2⟩
          clear ht6 hc6
          obtain ⟨j0, j1, j2, j3, j4, j5, j6, j7⟩ := HR6.out.z
          obtain ⟨f0, f1, f2, f3, f4, f5, f6, f7⟩ := HR6.out.f
          first
           | refine hK.out _ _ ?_ (fun hHeld => ?_)
           | (go_wp2_with fail; refine hK.out _ _ ?_ (fun hHeld => ?_))
          ·(try dsimp only)
           exact ⟨HM6.out.1, HM6.out.2, HB6q.out.box.2.1, HB6q.out.box.2.2.1, HQ6.out.z⟩
          clear hK K
          try simp only [Act.put, qA, qB, qC]
          refine wpAnyH_ready (rs := [15]) (by kernel_rfl) (by simp) ?_
          refine AllReadyH.cons (o := ⟨some 60, Op.call { callee := Callee.value (Operand.func 147), args := #[Operand.tmp 59], argTypes := #[33] }, 175, _, _, none⟩) rfl (fun K hK => ?_) ?_
          ·go_simp
           go_at_call 147
           refine (refused_any E1 _).mono ?_
           rintro e7 w7 ⟨rfl, rfl⟩
           first
            | refine hK.out _ _ ?_ (fun hHeld => ?_)
            | (go_wp2_with fail; refine hK.out _ _ ?_ (fun hHeld => ?_))
           ·(try dsimp only)
            exact ⟨HM6.out.1, HM6.out.2, HB6q.out.box.2.1, HB6q.out.box.2.2.1, HQ6.out.z⟩
           clear hK K
           try simp only [Act.put, qA, qB, qC]
           refine wpAnyH_ready (rs := [16]) (by kernel_rfl) (by simp) ?_
           refine AllReadyH.cons (o := ⟨none, Op.store 66 (Operand.tmp 4) (Operand.tmp 45), 0, _, _, none⟩) rfl (fun K hK => ?_) ?_
           ·go_simp
            first
             | refine hK.out _ _ ?_ (fun hHeld => ?_)
             | (go_wp2_with fail; refine hK.out _ _ ?_ (fun hHeld => ?_))
            ·(try dsimp only)
             have h1 := setR_chg w6 r (rpN C)
             have hne := HNB2.out
             exact ⟨h1.cell HM6.out.1 hne.1, h1.cell HM6.out.2 hne.1, h1.cell HB6q.out.box.2.1 hne.2.1, h1.cell HB6q.out.box.2.2.1 hne.2.1, (HQ6.out.chg h1 hne.2.2).z⟩
            clear hK K
            try simp only [Act.put, qA, qB, qC]
            refine tkI (i := 17) (oi := ⟨some 5, Op.assign (Operand.tmp 60), 175, _, _, none⟩) (v := ?_) rfl (by rfl) ?_ ?_
            rotate_left
            ·intro w hSw
             (try dsimp only at hSw)
             go_simp
             try with_reducible rfl
            try simp only [Act.put, qA, qB, qC]
            refine wpAnyH_done (by kernel_rfl) ?_ _
            go_wp2
            have hst := setR_row HR6.out (rpN C)
            have hcs := setR_chg w6 r (rpN C)
            unfold setR rpN at hst hcs
            dsimp only at hst hcs
            refine bodyPost_ret (v := .tuple #[.agg #[.int .i64 0, .int .i64 0, .int .i64 0, .int .i64 (C.add : Nat), .int .i64 (C.same : Nat), .int .i64 (C.other : Nat), .int .i64 (C.cyc : Nat), .int .i64 (C.full : Nat)], errV E1]) (by
              generalize World.setCell (World.setCell (World.setCell (World.setCell (World.setCell (World.setCell (World.setCell (World.setCell w6 ⟨r, 0, none⟩ (.int .i64 0)) ⟨r, 1, none⟩ (.int .i64 0)) ⟨r, 2, none⟩ (.int .i64 0)) ⟨r, 3, none⟩ (.int .i64 (C.add : Nat))) ⟨r, 4, none⟩ (.int .i64 (C.same : Nat))) ⟨r, 5, none⟩ (.int .i64 (C.other : Nat))) ⟨r, 6, none⟩ (.int .i64 (C.cyc : Nat))) ⟨r, 7, none⟩ (.int .i64 (C.full : Nat)) = W9 at hst ⊢
              obtain ⟨m0, m1, m2, m3, m4, m5, m6, m7⟩ := hst.z
              dsimp only at m0 m1 m2 m3 m4 m5 m6 m7
              simp [results, Tryz.results149, go_sem, m0, m1, m2, m3, m4, m5, m6, m7]) rfl ?_
            rw [HI2.out]
            exact ⟨rfl, { P with R := R' }, HT6.out.box HM.out.er hcs (by have := HRB.out; omega) HNR.out⟩
           exact AllReadyH.nil
          exact AllReadyH.nil
         exact AllReadyH.nil
        exact AllReadyH.nil
       exact AllReadyH.nil
      refine AllReadyH.cons (o := ⟨some 9, Op.alloc 64, 0, _, _, none⟩) rfl (fun K hK => ?_) ?_
      ·go_simp
       first
        | refine hK.out _ _ ?_ (fun hHeld => ?_)
        | (go_wp2_with fail; refine hK.out _ _ ?_ (fun hHeld => ?_))
       ·(try dsimp only)
        exact HKY.out _ HALY.out.drew
       clear hK K
       try simp only [Act.put, qA, qB, qC]
       refine wpAnyH_ready (rs := [6]) (by kernel_rfl) (by simp) ?_
       refine AllReadyH.cons (o := ⟨some 40, Op.call { callee := Callee.value (Operand.func 181), args := #[Operand.tmp 37, Operand.tmp 39], argTypes := #[126, 22] }, 141, _, _, none⟩) rfl (fun K hK => ?_) ?_
       ·go_simp
        go_at_call 181
        refine (HOP.out _ HALY.out.drew).mono ?_
        rintro e5 w5 ⟨rfl, R', ht5⟩
        unfold cnV
        have HT5 : Hid (McTo w w5 P { P with R := R' } { m with S := S1 }) := hide ((((HMY.out.below HALY.out.drew).sto ht5)).from (HWY.out.trans (HALY.out.drew.mono HWY.out.size)))
        have HC5 : Hid (Chg _ w5 (SoM P.bm P.R)) := hide ht5.chg
        have HR5 := hide ((HRY.out.below HALY.out.drew).chg ht5.chg ((HMY.out.below HALY.out.drew).so.ne_cell (HRY.out.below HALY.out.drew).z.1))
        have HB5c := hide ((HBY.out.below HALY.out.drew).chg ht5.chg ((HMY.out.below HALY.out.drew).so.ne_cell (HBY.out.below HALY.out.drew).box.1))
        have HS5 : Hid (Y.heap.size ≤ w5.heap.size) := hide (Nat.le_trans HALY.out.drew.size ht5.chg.size)
        have HNR : Hid (¬ McS { P with R := R' } r) := hide (fun hk => by
          rcases ((HMY.out.below HALY.out.drew).sto ht5).new _ hk with e | e
          ·have := HRB.out.2.2 r e; have := HRB.out.2.1; omega
          ·exact absurd (Nat.lt_of_lt_of_le HRY.out.lt (Nat.le_trans HALY.out.drew.size e)) (Nat.lt_irrefl _))
        have HK5 : Hid (w5.cell? ⟨P.gi, 0, none⟩ = some (.pointer (some ⟨P.gs, 0, none⟩)) ∧ w5.cell? ⟨b, 4, none⟩ = some (.slice p n d)) := hide ⟨(HMY.out.below HALY.out.drew).so.keep ht5.chg (HMY.out.below HALY.out.drew).row.c0, HB5c.out.box.2.2.2.2.1⟩
        have hr9 := ((show RowN (Y.alloc (.cells #[.int .i64 0, .int .i64 0, .int .i64 0, .int .i64 0, .int .i64 0] 64)).drew Y.heap.size (.int .i64 0) (.int .i64 0) (.int .i64 0) (.int .i64 0) (.int .i64 0) from RowN.new Y _ _ _ _ _)).chg ht5.chg ((HMY.out.below HALY.out.drew).so.ne_cell (show RowN (Y.alloc (.cells #[.int .i64 0, .int .i64 0, .int .i64 0, .int .i64 0, .int .i64 0] 64)).drew Y.heap.size (.int .i64 0) (.int .i64 0) (.int .i64 0) (.int .i64 0) (.int .i64 0) from RowN.new Y _ _ _ _ _).z.1)
        have HN9 : Hid (¬ McS { P with R := R' } Y.heap.size) := hide (fun hk => by
          rcases ((HMY.out.below HALY.out.drew).sto ht5).new _ hk with e | e
          ·exact absurd (HMY.out.lt _ e) (Nat.lt_irrefl _)
          ·have e1 : Y.heap.size + 1 ≤ Y.heap.size := by simpa using e
           omega)
        clear ht5
        obtain ⟨j0, j1, j2, j3, j4⟩ := hr9.z
        obtain ⟨f0, f1, f2, f3, f4⟩ := hr9.f
        first
         | refine hK.out _ _ ?_ (fun hHeld => ?_)
         | (go_wp2_with fail; refine hK.out _ _ ?_ (fun hHeld => ?_))
        ·(try dsimp only)
         exact HK5.out
        clear hK K
        try simp only [Act.put, qA, qB, qC]
        refine tkI (i := 7) (oi := ⟨some 33, Op.move (Operand.tmp 40), 141, _, _, none⟩) (v := ?_) rfl (by rfl) ?_ ?_
        rotate_left
        ·intro w hSw
         (try dsimp only at hSw)
         go_simp
         try with_reducible rfl
        try simp only [Act.put, qA, qB, qC]
        refine tkI (i := 8) (oi := ⟨some 41, Op.extract (Operand.tmp 33) 0, 64, _, _, none⟩) (v := ?_) rfl (by rfl) ?_ ?_
        rotate_left
        ·intro w hSw
         (try dsimp only at hSw)
         go_simp
         try with_reducible rfl
        try simp only [Act.put, qA, qB, qC]
        refine tkI (i := 9) (oi := ⟨some 42, Op.extract (Operand.tmp 33) 1, 33, _, _, none⟩) (v := ?_) rfl (by rfl) ?_ ?_
        rotate_left
        ·intro w hSw
         (try dsimp only at hSw)
         go_simp
         try with_reducible rfl
        try simp only [Act.put, qA, qB, qC]
        refine wpAnyH_ready (rs := [11]) (by kernel_rfl) (by simp) ?_
        refine AllReadyH.cons (o := ⟨none, Op.store 64 (Operand.tmp 9) (Operand.tmp 41), 0, _, _, none⟩) rfl (fun K hK => ?_) ?_
        ·go_simp
         first
          | refine hK.out _ _ ?_ (fun hHeld => ?_)
          | (go_wp2_with fail; refine hK.out _ _ ?_ (fun hHeld => ?_))
         ·(try dsimp only)
          have h1 := chgN w5 Y.heap.size (.int .i64 (C.add : Nat)) (.int .i64 (C.same : Nat)) (.int .i64 (C.other : Nat)) (.int .i64 (C.cyc : Nat)) (.int .i64 (C.full : Nat))
          exact ⟨h1.cell HK5.out.1 (Nat.ne_of_lt (HMY.out.lt P.gi (.inl rfl))), h1.cell HK5.out.2 (Nat.ne_of_lt HBY.out.lt)⟩
         clear hK K
         try simp only [Act.put, qA, qB, qC]
         refine tkI (i := 12) (oi := ⟨some 10, Op.assign (Operand.tmp 42), 33, _, _, none⟩) (v := ?_) rfl (by rfl) ?_ ?_
         rotate_left
         ·intro w hSw
          (try dsimp only at hSw)
          go_simp
          try with_reducible rfl
         try simp only [Act.put, qA, qB, qC]
         refine wpAnyH_done (by kernel_rfl) ?_ _
         have hst := ((((hr9.s0 (.int .i64 (C.add : Nat))).s1 (.int .i64 (C.same : Nat))).s2 (.int .i64 (C.other : Nat))).s3 (.int .i64 (C.cyc : Nat))).s4 (.int .i64 (C.full : Nat))
         have hcs := chgN w5 Y.heap.size (.int .i64 (C.add : Nat)) (.int .i64 (C.same : Nat)) (.int .i64 (C.other : Nat)) (.int .i64 (C.cyc : Nat)) (.int .i64 (C.full : Nat))
         have htz := HT5.out.box HM.out.er hcs HWY.out.size HN9.out
         have hrz := HR5.out.chg hcs (Nat.ne_of_lt HRY.out.lt)
         have hbz := HB5c.out.chg hcs (Nat.ne_of_lt HBY.out.lt)
         generalize World.setCell (World.setCell (World.setCell (World.setCell (World.setCell w5 ⟨Y.heap.size, 0, none⟩ (.int .i64 (C.add : Nat))) ⟨Y.heap.size, 1, none⟩ (.int .i64 (C.same : Nat))) ⟨Y.heap.size, 2, none⟩ (.int .i64 (C.other : Nat))) ⟨Y.heap.size, 3, none⟩ (.int .i64 (C.cyc : Nat))) ⟨Y.heap.size, 4, none⟩ (.int .i64 (C.full : Nat)) = Z at hst htz hrz hbz ⊢
         obtain ⟨b9, hb9⟩ : ∃ b, Y.heap.size = b := ⟨_, rfl⟩
         rw [hb9] at hst ⊢
         clear hr9 j0 j1 j2 j3 j4 f0 f1 f2 f3 f4 hcs hb9
         obtain ⟨z0, z1, z2, z3, z4⟩ := hst.z
         have HTZ := hide htz
         have HRZ := hide hrz
         have HBZ := hide hbz
         clear hst htz hrz hbz HKY HOP HALY hHeld
         go_upto_region 6 with fail
         have hqq : RowR (Z.alloc (.cells #[.int .i64 0, .int .i64 0, .int .i64 0, .int .i64 (C.add : Nat), .int .i64 (C.same : Nat), .int .i64 (C.other : Nat), .int .i64 (C.cyc : Nat), .int .i64 (C.full : Nat)] 66)) Z.heap.size (rpN C) := RowR.new Z (rpN C)
         have hbl : Below Z.heap.size Z (Z.alloc (.cells #[.int .i64 0, .int .i64 0, .int .i64 0, .int .i64 (C.add : Nat), .int .i64 (C.same : Nat), .int .i64 (C.other : Nat), .int .i64 (C.cyc : Nat), .int .i64 (C.full : Nat)] 66)) := (Below.refl Z.heap.size Z).alloc (Nat.le_refl _) _
         generalize Z.alloc (.cells #[.int .i64 0, .int .i64 0, .int .i64 0, .int .i64 (C.add : Nat), .int .i64 (C.same : Nat), .int .i64 (C.other : Nat), .int .i64 (C.cyc : Nat), .int .i64 (C.full : Nat)] 66) = Q at hqq hbl ⊢
         obtain ⟨b11, hb11⟩ : ∃ b, Z.heap.size = b := ⟨_, rfl⟩
         have HNB : Hid (¬ r = P.bt ∧ ¬ b11 = P.bt ∧ ¬ b = P.bt) := hide (by
           have h1 := HRB.out
           have h2 := h1.2.2 P.bt (.inr (.inr (.inl rfl)))
           have h3 := HTZ.out.is.lt P.bt (.inr (.inr (.inl rfl)))
           exact ⟨by omega, by omega, by omega⟩)
         have HNB2 : Hid (¬ P.gi = r ∧ ¬ b = r ∧ ¬ b11 = r) := hide (by
           have h1 := HRB.out
           have h2 := h1.2.2 P.gi (.inl rfl)
           have h3 := HRZ.out.lt
           exact ⟨by omega, by omega, by omega⟩)
         have HTQ := hide (HTZ.out.below hbl)
         have HRQ := hide (HRZ.out.below hbl)
         have HBQ := hide (HBZ.out.below hbl)
         have HMQ := hide (HTZ.out.is.below hbl)
         rw [hb11] at hqq ⊢
         have HQQ := hide hqq
         obtain ⟨ix, hix⟩ : ∃ i, m.ix = i := ⟨_, rfl⟩
         obtain ⟨E1, L1, hE⟩ : ∃ E L, keepT m.L se sq m.ix (rpN C) = (E, L) := ⟨_, _, rfl⟩
         have HI2 : Hid (ingM m ⟨k, se, sq, a, sp, vo⟩ = (rpN C, E1, { m with S := S1, L := L1 })) := hide (by rw [HI.out, hE])
         have HCQ : Hid (Q.cell? ⟨P.gi, 1, none⟩ = some (.pointer (some ⟨P.gt, 0, none⟩)) ∧ Q.cell? ⟨P.gi, 2, none⟩ = some (.int .i64 ix)) := hide ⟨HMQ.out.row.c1, by rw [← hix]; exact HMQ.out.row.c2⟩
         have HKE : Hid (Calls Tryz.prog 182 #[.pointer (some ⟨P.gt, 0, none⟩), .int .i64 se, .int .i64 sq, .int .i64 ix, .agg #[.int .i64 0, .int .i64 0, .int .i64 0, .int .i64 (C.add : Nat), .int .i64 (C.same : Nat), .int .i64 (C.other : Nat), .int .i64 (C.cyc : Nat), .int .i64 (C.full : Nat)]] Q.drew (TabPost Q.drew P.gt P.bt E1 L1)) := hide (by
           have hh := ses_keep_any (HMQ.out.drewN 1).tb (n := se) (m := sq) (a := m.ix) (r := rpN C) (WalkArith.wf_i64 (by have := H12.out; omega)) (by have := H12.out; omega) (by have := H12.out; omega)
           dsimp only at hh
           rw [hE, hix] at hh
           exact hh)
         clear hix hE hqq hbl z0 z1 z2 z3 z4
         refine wp_region_held_drew (S := (fun U => U.cell? ⟨P.gi, 1, none⟩ = some (.pointer (some ⟨P.gt, 0, none⟩)) ∧ U.cell? ⟨P.gi, 2, none⟩ = some (.int .i64 ix) ∧ U.cell? ⟨b, 1, none⟩ = some (.int .i64 se) ∧ U.cell? ⟨b, 2, none⟩ = some (.int .i64 sq) ∧ U.cell? ⟨b11, 0, none⟩ = some (.int .i64 0) ∧ U.cell? ⟨b11, 1, none⟩ = some (.int .i64 0) ∧ U.cell? ⟨b11, 2, none⟩ = some (.int .i64 0) ∧ U.cell? ⟨b11, 3, none⟩ = some (.int .i64 (C.add : Nat)) ∧ U.cell? ⟨b11, 4, none⟩ = some (.int .i64 (C.same : Nat)) ∧ U.cell? ⟨b11, 5, none⟩ = some (.int .i64 (C.other : Nat)) ∧ U.cell? ⟨b11, 6, none⟩ = some (.int .i64 (C.cyc : Nat)) ∧ U.cell? ⟨b11, 7, none⟩ = some (.int .i64 (C.full : Nat)))) (by kernel_rfl) ?_ (fun hHeld => ?_)
         ·(try dsimp only)
          exact ⟨HCQ.out.1, HCQ.out.2, HBQ.out.box.2.1, HBQ.out.box.2.2.1, HQQ.out.z⟩
         refine tkI (i := 0) (oi := ⟨some 45, Op.load 66 (Operand.tmp 11), 66, _, _, none⟩) (v := (.agg #[.int .i64 0, .int .i64 0, .int .i64 0, .int .i64 (C.add : Nat), .int .i64 (C.same : Nat), .int .i64 (C.other : Nat), .int .i64 (C.cyc : Nat), .int .i64 (C.full : Nat)])) rfl (by rfl) ?_ ?_
         ·intro w hSw
          (try dsimp only at hSw)
          go_simp
          try with_reducible rfl
         try simp only [Act.put, qA, qB, qC]
         refine tkI (i := 1) (oi := ⟨some 46, Op.move (Operand.tmp 0), 97, _, _, none⟩) (v := ?_) rfl (by rfl) ?_ ?_
         rotate_left
         ·intro w hSw
          (try dsimp only at hSw)
          go_simp
          try with_reducible rfl
         try simp only [Act.put, qA, qB, qC]
         refine tkI (i := 2) (oi := ⟨some 47, Op.nilCheck (Operand.tmp 46), 0, _, _, none⟩) (v := ?_) rfl (by rfl) ?_ ?_
         rotate_left
         ·intro w hSw
          (try dsimp only at hSw)
          go_simp
          try with_reducible rfl
         try simp only [Act.put, qA, qB, qC]
         refine tkI (i := 3) (oi := ⟨some 48, Op.fieldAddr 131 (Operand.tmp 47) 1, 0, _, _, none⟩) (v := ?_) rfl (by rfl) ?_ ?_
         rotate_left
         ·intro w hSw
          (try dsimp only at hSw)
          go_simp
          try with_reducible rfl
         try simp only [Act.put, qA, qB, qC]
         refine tkI (i := 4) (oi := ⟨some 49, Op.load 128 (Operand.tmp 48), 128, _, _, none⟩) (v := ?_) rfl (by rfl) ?_ ?_
         rotate_left
         ·intro w hSw
          (try dsimp only at hSw)
          go_simp
          try with_reducible rfl
         try simp only [Act.put, qA, qB, qC]
         refine tkI (i := 5) (oi := ⟨some 50, Op.fieldAddr 25 (Operand.tmp 3) 1, 0, _, _, none⟩) (v := ?_) rfl (by rfl) ?_ ?_
         rotate_left
         ·intro w hSw
          (try dsimp only at hSw)
          go_simp
          try with_reducible rfl
         try simp only [Act.put, qA, qB, qC]
         refine tkI (i := 6) (oi := ⟨some 51, Op.load 3 (Operand.tmp 50), 3, _, _, none⟩) (v := ?_) rfl (by rfl) ?_ ?_
         rotate_left
         ·intro w hSw
          (try dsimp only at hSw)
          go_simp
          try with_reducible rfl
         try simp only [Act.put, qA, qB, qC]
         refine tkI (i := 7) (oi := ⟨some 52, Op.fieldAddr 25 (Operand.tmp 3) 2, 0, _, _, none⟩) (v := ?_) rfl (by rfl) ?_ ?_
         rotate_left
         ·intro w hSw
          (try dsimp only at hSw)
          go_simp
          try with_reducible rfl
         try simp only [Act.put, qA, qB, qC]
         refine tkI (i := 8) (oi := ⟨some 53, Op.load 3 (Operand.tmp 52), 3, _, _, none⟩) (v := ?_) rfl (by rfl) ?_ ?_
         rotate_left
         ·intro w hSw
          (try dsimp only at hSw)
          go_simp
          try with_reducible rfl
         try simp only [Act.put, qA, qB, qC]
         refine tkI (i := 9) (oi := ⟨some 54, Op.move (Operand.tmp 0), 97, _, _, none⟩) (v := ?_) rfl (by rfl) ?_ ?_
         rotate_left
         ·intro w hSw
          (try dsimp only at hSw)
          go_simp
          try with_reducible rfl
         try simp only [Act.put, qA, qB, qC]
         refine tkI (i := 10) (oi := ⟨some 55, Op.nilCheck (Operand.tmp 54), 0, _, _, none⟩) (v := ?_) rfl (by rfl) ?_ ?_
         rotate_left
         ·intro w hSw
          (try dsimp only at hSw)
          go_simp
          try with_reducible rfl
         try simp only [Act.put, qA, qB, qC]
         refine tkI (i := 11) (oi := ⟨some 56, Op.fieldAddr 131 (Operand.tmp 55) 2, 0, _, _, none⟩) (v := ?_) rfl (by rfl) ?_ ?_
         rotate_left
         ·intro w hSw
          (try dsimp only at hSw)
          go_simp
          try with_reducible rfl
         try simp only [Act.put, qA, qB, qC]
         refine tkI (i := 12) (oi := ⟨some 57, Op.load 3 (Operand.tmp 56), 3, _, _, none⟩) (v := ?_) rfl (by rfl) ?_ ?_
         rotate_left
         ·intro w hSw
          (try dsimp only at hSw)
          go_simp
          try with_reducible rfl
         try simp only [Act.put, qA, qB, qC]
         refine tkI (i := 13) (oi := ⟨some 58, Op.load 66 (Operand.tmp 11), 66, _, _, none⟩) (v := (.agg #[.int .i64 0, .int .i64 0, .int .i64 0, .int .i64 (C.add : Nat), .int .i64 (C.same : Nat), .int .i64 (C.other : Nat), .int .i64 (C.cyc : Nat), .int .i64 (C.full : Nat)])) rfl (by rfl) ?_ ?_
         ·intro w hSw
          (try dsimp only at hSw)
          go_simp
          try with_reducible rfl
         try simp only [Act.put, qA, qB, qC]
         refine wpAnyH_ready (rs := [14]) (by kernel_rfl) (by simp) ?_
         refine AllReadyH.cons (o := ⟨some 59, Op.call { callee := Callee.value (Operand.func 182), args := #[Operand.tmp 49, Operand.tmp 51, Operand.tmp 53, Operand.tmp 57, Operand.tmp 58], argTypes := #[128, 3, 3, 3, 66] }, 33, _, _, none⟩) rfl (fun K hK => ?_) ?_
         ·go_simp
          go_at_call 182
          refine (HKE.out).mono ?_
          rintro e6 w6 ⟨rfl, ht6, hc6⟩
          have HT6 : Hid (McTo w w6 P { P with R := R' } { m with S := S1, L := L1 }) := hide ⟨((HMQ.out.drewN 1).tab ht6 hc6).is, rfl, (HTQ.out.below (bdrew Q 1)).chg.trans hc6 (fun k e => .inl (.inr (.inl e))), HTQ.out.new⟩
          have HR6 := hide ((show RowR Q.drew r rp0 from HRQ.out).chg hc6 HNB.out.1)
          have HQ6 := hide ((show RowR Q.drew b11 (rpN C) from HQQ.out).chg hc6 HNB.out.2.1)
          have HB6q := hide ((show RowC Q.drew b k se sq a (.slice p n d) (.slice q mq f) from HBQ.out).chg hc6 HNB.out.2.2)
          have HM6 : Hid (w6.cell? ⟨P.gi, 1, none⟩ = some (.pointer (some ⟨P.gt, 0, none⟩)) ∧ w6.cell? ⟨P.gi, 2, none⟩ = some (.int .i64 ix)) := hide ⟨hc6.cell HCQ.out.1 HMQ.out.a2.2, hc6.cell HCQ.out.2 HMQ.out.a2.2⟩
          clear ht6 hc6
          obtain ⟨j0, j1, j2, j3, j4, j5, j6, j7⟩ := HR6.out.z
          obtain ⟨f0, f1, f2, f3, f4, f5, f6, f7⟩ := HR6.out.f
          first
           | refine hK.out _ _ ?_ (fun hHeld => ?_)
           | (go_wp2_with fail; refine hK.out _ _ ?_ (fun hHeld => ?_))
          ·(try dsimp only)
           exact ⟨HM6.out.1, HM6.out.2, HB6q.out.box.2.1, HB6q.out.box.2.2.1, HQ6.out.z⟩
          clear hK K
          try simp only [Act.put, qA, qB, qC]
          refine wpAnyH_ready (rs := [15]) (by kernel_rfl) (by simp) ?_
          refine AllReadyH.cons (o := ⟨some 60, Op.call { callee := Callee.value (Operand.func 147), args := #[Operand.tmp 59], argTypes := #[33] }, 175, _, _, none⟩) rfl (fun K hK => ?_) ?_
          ·go_simp
           go_at_call 147
           refine (refused_any E1 _).mono ?_
           rintro e7 w7 ⟨rfl, rfl⟩
           first
            | refine hK.out _ _ ?_ (fun hHeld => ?_)
            | (go_wp2_with fail; refine hK.out _ _ ?_ (fun hHeld => ?_))
           ·(try dsimp only)
            exact ⟨HM6.out.1, HM6.out.2, HB6q.out.box.2.1, HB6q.out.box.2.2.1, HQ6.out.z⟩
           clear hK K
           try simp only [Act.put, qA, qB, qC]
           refine wpAnyH_ready (rs := [16]) (by kernel_rfl) (by simp) ?_
           refine AllReadyH.cons (o := ⟨none, Op.store 66 (Operand.tmp 4) (Operand.tmp 45), 0, _, _, none⟩) rfl (fun K hK => ?_) ?_
           ·go_simp
            first
             | refine hK.out _ _ ?_ (fun hHeld => ?_)
             | (go_wp2_with fail; refine hK.out _ _ ?_ (fun hHeld => ?_))
            ·(try dsimp only)
             have h1 := setR_chg w6 r (rpN C)
             have hne := HNB2.out
             exact ⟨h1.cell HM6.out.1 hne.1, h1.cell HM6.out.2 hne.1, h1.cell HB6q.out.box.2.1 hne.2.1, h1.cell HB6q.out.box.2.2.1 hne.2.1, (HQ6.out.chg h1 hne.2.2).z⟩
            clear hK K
            try simp only [Act.put, qA, qB, qC]
            refine tkI (i := 17) (oi := ⟨some 5, Op.assign (Operand.tmp 60), 175, _, _, none⟩) (v := ?_) rfl (by rfl) ?_ ?_
            rotate_left
            ·intro w hSw
             (try dsimp only at hSw)
             go_simp
             try with_reducible rfl
            try simp only [Act.put, qA, qB, qC]
            refine wpAnyH_done (by kernel_rfl) ?_ _
            go_wp2
            have hst := setR_row HR6.out (rpN C)
            have hcs := setR_chg w6 r (rpN C)
            unfold setR rpN at hst hcs
            dsimp only at hst hcs
            refine bodyPost_ret (v := .tuple #[.agg #[.int .i64 0, .int .i64 0, .int .i64 0, .int .i64 (C.add : Nat), .int .i64 (C.same : Nat), .int .i64 (C.other : Nat), .int .i64 (C.cyc : Nat), .int .i64 (C.full : Nat)], errV E1]) (by
              generalize World.setCell (World.setCell (World.setCell (World.setCell (World.setCell (World.setCell (World.setCell (World.setCell w6 ⟨r, 0, none⟩ (.int .i64 0)) ⟨r, 1, none⟩ (.int .i64 0)) ⟨r, 2, none⟩ (.int .i64 0)) ⟨r, 3, none⟩ (.int .i64 (C.add : Nat))) ⟨r, 4, none⟩ (.int .i64 (C.same : Nat))) ⟨r, 5, none⟩ (.int .i64 (C.other : Nat))) ⟨r, 6, none⟩ (.int .i64 (C.cyc : Nat))) ⟨r, 7, none⟩ (.int .i64 (C.full : Nat)) = W9 at hst ⊢
              obtain ⟨m0, m1, m2, m3, m4, m5, m6, m7⟩ := hst.z
              dsimp only at m0 m1 m2 m3 m4 m5 m6 m7
              simp [results, Tryz.results149, go_sem, m0, m1, m2, m3, m4, m5, m6, m7]) rfl ?_
            rw [HI2.out]
            exact ⟨rfl, { P with R := R' }, HT6.out.box HM.out.er hcs (by have := HRB.out; omega) HNR.out⟩
           exact AllReadyH.nil
          exact AllReadyH.nil
         exact AllReadyH.nil
        exact AllReadyH.nil
       exact AllReadyH.nil
      exact AllReadyH.nil
     ·subst hdn
      have HI : Hid (ingM m ⟨k, se, sq, a, sp, vo⟩ = (qr, 0, m)) := hide (by
        have h1 := HQ.out
        unfold ingM
        dsimp only
        rw [h1]
        exact if_pos (.inr rfl))
      go_upto_region 3 with fail
      refine wp_region_held_drew (S := (fun U => U.cell? ⟨b6, 0, none⟩ = some (.int .i64 qr.er) ∧ U.cell? ⟨b6, 1, none⟩ = some (.int .i64 qr.rs) ∧ U.cell? ⟨b6, 2, none⟩ = some (.int .i64 qr.gn) ∧ U.cell? ⟨b6, 3, none⟩ = some (.int .i64 qr.ad) ∧ U.cell? ⟨b6, 4, none⟩ = some (.int .i64 qr.sa) ∧ U.cell? ⟨b6, 5, none⟩ = some (.int .i64 qr.ot) ∧ U.cell? ⟨b6, 6, none⟩ = some (.int .i64 qr.cy) ∧ U.cell? ⟨b6, 7, none⟩ = some (.int .i64 qr.fu))) (by kernel_rfl) ?_ (fun hHeld => ?_)
      ·(try dsimp only)
       exact (show RowR Y.drew b6 qr from HST.out).z
      refine tkI (i := 0) (oi := ⟨some 30, Op.load 66 (Operand.tmp 6), 66, _, _, none⟩) (v := (.agg #[.int .i64 qr.er, .int .i64 qr.rs, .int .i64 qr.gn, .int .i64 qr.ad, .int .i64 qr.sa, .int .i64 qr.ot, .int .i64 qr.cy, .int .i64 qr.fu])) rfl (by rfl) ?_ ?_
      ·intro w hSw
       (try dsimp only at hSw)
       go_simp
       try with_reducible rfl
      try simp only [Act.put, qA, qB, qC]
      refine tkI (i := 1) (oi := ⟨some 31, Op.move (Operand.tmp 8), 33, _, _, none⟩) (v := ?_) rfl (by rfl) ?_ ?_
      rotate_left
      ·intro w hSw
       (try dsimp only at hSw)
       go_simp
       try with_reducible rfl
      try simp only [Act.put, qA, qB, qC]
      refine wpAnyH_ready (rs := [2]) (by kernel_rfl) (by simp) ?_
      refine AllReadyH.cons (o := ⟨some 32, Op.call { callee := Callee.value (Operand.func 147), args := #[Operand.tmp 31], argTypes := #[33] }, 175, _, _, none⟩) rfl (fun K hK => ?_) ?_
      ·go_simp
       go_at_call 147
       refine (refused_any 0 _).mono ?_
       rintro e6 w6 ⟨rfl, hw6⟩
       have HW6 : Hid (Below Y.heap.size Y w6) := hide (hw6 ▸ bdrew Y 1)
       clear hw6
       obtain ⟨j0, j1, j2, j3, j4, j5, j6, j7⟩ := (HRY.out.below HW6.out).z
       obtain ⟨f0, f1, f2, f3, f4, f5, f6, f7⟩ := (HRY.out.below HW6.out).f
       first
        | refine hK.out _ _ ?_ (fun hHeld => ?_)
        | (go_wp2_with fail; refine hK.out _ _ ?_ (fun hHeld => ?_))
       ·(try dsimp only)
        exact (HST.out.below HW6.out).z
       clear hK K
       try simp only [Act.put, qA, qB, qC]
       refine wpAnyH_ready (rs := [3]) (by kernel_rfl) (by simp) ?_
       refine AllReadyH.cons (o := ⟨none, Op.store 66 (Operand.tmp 4) (Operand.tmp 30), 0, _, _, none⟩) rfl (fun K hK => ?_) ?_
       ·go_simp
        first
         | refine hK.out _ _ ?_ (fun hHeld => ?_)
         | (go_wp2_with fail; refine hK.out _ _ ?_ (fun hHeld => ?_))
        ·(try dsimp only)
         exact ((HST.out.below HW6.out).chg (setR_chg w6 r qr) (fun (e : b6 = r) => by have := HB6.out; have := HRX.out.lt; omega)).z
        clear hK K
        try simp only [Act.put, qA, qB, qC]
        refine tkI (i := 4) (oi := ⟨some 5, Op.assign (Operand.tmp 32), 175, _, _, none⟩) (v := ?_) rfl (by rfl) ?_ ?_
        rotate_left
        ·intro w hSw
         (try dsimp only at hSw)
         go_simp
         try with_reducible rfl
        try simp only [Act.put, qA, qB, qC]
        refine wpAnyH_done (by kernel_rfl) ?_ _
        go_wp2
        have hst := setR_row (HRY.out.below HW6.out) qr
        have hcs := setR_chg w6 r qr
        unfold setR at hst hcs
        refine bodyPost_ret (v := .tuple #[.agg #[.int .i64 qr.er, .int .i64 qr.rs, .int .i64 qr.gn, .int .i64 qr.ad, .int .i64 qr.sa, .int .i64 qr.ot, .int .i64 qr.cy, .int .i64 qr.fu], errV 0]) (by
          generalize World.setCell (World.setCell (World.setCell (World.setCell (World.setCell (World.setCell (World.setCell (World.setCell w6 ⟨r, 0, none⟩ (.int .i64 qr.er)) ⟨r, 1, none⟩ (.int .i64 qr.rs)) ⟨r, 2, none⟩ (.int .i64 qr.gn)) ⟨r, 3, none⟩ (.int .i64 qr.ad)) ⟨r, 4, none⟩ (.int .i64 qr.sa)) ⟨r, 5, none⟩ (.int .i64 qr.ot)) ⟨r, 6, none⟩ (.int .i64 qr.cy)) ⟨r, 7, none⟩ (.int .i64 qr.fu) = W9 at hst ⊢
          obtain ⟨m0, m1, m2, m3, m4, m5, m6, m7⟩ := hst.z
          simp [results, Tryz.results149, go_sem, m0, m1, m2, m3, m4, m5, m6, m7]) rfl ?_
        rw [HI.out]
        refine ⟨rfl, P, McTo.box HM.out.er ((HM.out.toB HWY.out).below HW6.out) hcs (by have := HRB.out; omega) (fun hk => by have := HRB.out.2.2 r hk; have := HRB.out; omega)⟩
       exact AllReadyH.nil
      exact AllReadyH.nil
    ·have h1 : (e0 == 0) = false := by simpa using h0
     have HI : Hid (ingM m ⟨k, se, sq, a, sp, vo⟩ = (qr, e0, m)) := hide (by
       have h1 := HQ.out
       unfold ingM
       dsimp only
       rw [h1]
       exact if_pos (.inl h0))
     go_upto_region 3 with fail
     refine wp_region_held_drew (S := (fun U => U.cell? ⟨b6, 0, none⟩ = some (.int .i64 qr.er) ∧ U.cell? ⟨b6, 1, none⟩ = some (.int .i64 qr.rs) ∧ U.cell? ⟨b6, 2, none⟩ = some (.int .i64 qr.gn) ∧ U.cell? ⟨b6, 3, none⟩ = some (.int .i64 qr.ad) ∧ U.cell? ⟨b6, 4, none⟩ = some (.int .i64 qr.sa) ∧ U.cell? ⟨b6, 5, none⟩ = some (.int .i64 qr.ot) ∧ U.cell? ⟨b6, 6, none⟩ = some (.int .i64 qr.cy) ∧ U.cell? ⟨b6, 7, none⟩ = some (.int .i64 qr.fu))) (by kernel_rfl) ?_ (fun hHeld => ?_)
     ·(try dsimp only)
      exact (show RowR Y.drew b6 qr from HST.out).z
     refine tkI (i := 0) (oi := ⟨some 30, Op.load 66 (Operand.tmp 6), 66, _, _, none⟩) (v := (.agg #[.int .i64 qr.er, .int .i64 qr.rs, .int .i64 qr.gn, .int .i64 qr.ad, .int .i64 qr.sa, .int .i64 qr.ot, .int .i64 qr.cy, .int .i64 qr.fu])) rfl (by rfl) ?_ ?_
     ·intro w hSw
      (try dsimp only at hSw)
      go_simp
      try with_reducible rfl
     try simp only [Act.put, qA, qB, qC]
     refine tkI (i := 1) (oi := ⟨some 31, Op.move (Operand.tmp 8), 33, _, _, none⟩) (v := ?_) rfl (by rfl) ?_ ?_
     rotate_left
     ·intro w hSw
      (try dsimp only at hSw)
      go_simp
      try with_reducible rfl
     try simp only [Act.put, qA, qB, qC]
     refine wpAnyH_ready (rs := [2]) (by kernel_rfl) (by simp) ?_
     refine AllReadyH.cons (o := ⟨some 32, Op.call { callee := Callee.value (Operand.func 147), args := #[Operand.tmp 31], argTypes := #[33] }, 175, _, _, none⟩) rfl (fun K hK => ?_) ?_
     ·go_simp
      go_at_call 147
      refine (refused_any e0 _).mono ?_
      rintro e6 w6 ⟨rfl, hw6⟩
      have HW6 : Hid (Below Y.heap.size Y w6) := hide (hw6 ▸ bdrew Y 1)
      clear hw6
      obtain ⟨j0, j1, j2, j3, j4, j5, j6, j7⟩ := (HRY.out.below HW6.out).z
      obtain ⟨f0, f1, f2, f3, f4, f5, f6, f7⟩ := (HRY.out.below HW6.out).f
      first
       | refine hK.out _ _ ?_ (fun hHeld => ?_)
       | (go_wp2_with fail; refine hK.out _ _ ?_ (fun hHeld => ?_))
      ·(try dsimp only)
       exact (HST.out.below HW6.out).z
      clear hK K
      try simp only [Act.put, qA, qB, qC]
      refine wpAnyH_ready (rs := [3]) (by kernel_rfl) (by simp) ?_
      refine AllReadyH.cons (o := ⟨none, Op.store 66 (Operand.tmp 4) (Operand.tmp 30), 0, _, _, none⟩) rfl (fun K hK => ?_) ?_
      ·go_simp
       first
        | refine hK.out _ _ ?_ (fun hHeld => ?_)
        | (go_wp2_with fail; refine hK.out _ _ ?_ (fun hHeld => ?_))
       ·(try dsimp only)
        exact ((HST.out.below HW6.out).chg (setR_chg w6 r qr) (fun (e : b6 = r) => by have := HB6.out; have := HRX.out.lt; omega)).z
       clear hK K
       try simp only [Act.put, qA, qB, qC]
       refine tkI (i := 4) (oi := ⟨some 5, Op.assign (Operand.tmp 32), 175, _, _, none⟩) (v := ?_) rfl (by rfl) ?_ ?_
       rotate_left
       ·intro w hSw
        (try dsimp only at hSw)
        go_simp
        try with_reducible rfl
       try simp only [Act.put, qA, qB, qC]
       refine wpAnyH_done (by kernel_rfl) ?_ _
       go_wp2
       have hst := setR_row (HRY.out.below HW6.out) qr
       have hcs := setR_chg w6 r qr
       unfold setR at hst hcs
       refine bodyPost_ret (v := .tuple #[.agg #[.int .i64 qr.er, .int .i64 qr.rs, .int .i64 qr.gn, .int .i64 qr.ad, .int .i64 qr.sa, .int .i64 qr.ot, .int .i64 qr.cy, .int .i64 qr.fu], errV e0]) (by
         generalize World.setCell (World.setCell (World.setCell (World.setCell (World.setCell (World.setCell (World.setCell (World.setCell w6 ⟨r, 0, none⟩ (.int .i64 qr.er)) ⟨r, 1, none⟩ (.int .i64 qr.rs)) ⟨r, 2, none⟩ (.int .i64 qr.gn)) ⟨r, 3, none⟩ (.int .i64 qr.ad)) ⟨r, 4, none⟩ (.int .i64 qr.sa)) ⟨r, 5, none⟩ (.int .i64 qr.ot)) ⟨r, 6, none⟩ (.int .i64 qr.cy)) ⟨r, 7, none⟩ (.int .i64 qr.fu) = W9 at hst ⊢
         obtain ⟨m0, m1, m2, m3, m4, m5, m6, m7⟩ := hst.z
         simp [results, Tryz.results149, go_sem, m0, m1, m2, m3, m4, m5, m6, m7]) rfl ?_
       rw [HI.out]
       refine ⟨rfl, P, McTo.box HM.out.er ((HM.out.toB HWY.out).below HW6.out) hcs (by have := HRB.out; omega) (fun hk => by have := HRB.out.2.2 r hk; have := HRB.out; omega)⟩
      exact AllReadyH.nil
     exact AllReadyH.nil
   exact AllReadyH.nil
  exact AllReadyH.nil
 refine AllReadyH.cons (o := ⟨some 6, Op.alloc 66, 0, _, _, none⟩) rfl (fun K hK => ?_) ?_
 ·go_simp
  first
   | refine hK.out _ _ ?_ (fun hHeld => ?_)
   | (go_wp2_with fail; refine hK.out _ _ ?_ (fun hHeld => ?_))
  ·(try dsimp only)
   exact HKP.out _ HALX.out.drew
  clear hK K
  try simp only [Act.put, qA, qB, qC]
  refine wpAnyH_ready (rs := [8]) (by kernel_rfl) (by simp) ?_
  refine AllReadyH.cons (o := ⟨some 21, Op.call { callee := Callee.value (Operand.func 180), args := #[Operand.tmp 16, Operand.tmp 18, Operand.tmp 20], argTypes := #[128, 3, 3] }, 139, _, _, none⟩) rfl (fun K hK => ?_) ?_
  ·go_simp
   go_at_call 180
   refine (HASK.out _ HALX.out.drew).mono ?_
   rintro e5 w5 ⟨rfl, hb5⟩
   unfold rpV
   have hr6 := (show RowR (X.alloc (.cells #[.int .i64 0, .int .i64 0, .int .i64 0, .int .i64 0, .int .i64 0, .int .i64 0, .int .i64 0, .int .i64 0] 66)).drew X.heap.size rp0 from RowR.new X rp0).below hb5
   have HB5 : Hid (Below X.heap.size X w5) := hide (HALX.out.drew.trans (hb5.mono HALX.out.drew.size))
   obtain ⟨j0, j1, j2, j3, j4, j5, j6, j7⟩ := hr6.z
   obtain ⟨f0, f1, f2, f3, f4, f5, f6, f7⟩ := hr6.f
   first
    | refine hK.out _ _ ?_ (fun hHeld => ?_)
    | (go_wp2_with fail; refine hK.out _ _ ?_ (fun hHeld => ?_))
   ·(try dsimp only)
    exact HKP.out _ HB5.out
   clear hK K
   try simp only [Act.put, qA, qB, qC]
   refine tkI (i := 9) (oi := ⟨some 12, Op.move (Operand.tmp 21), 139, _, _, none⟩) (v := ?_) rfl (by rfl) ?_ ?_
   rotate_left
   ·intro w hSw
    (try dsimp only at hSw)
    go_simp
    try with_reducible rfl
   try simp only [Act.put, qA, qB, qC]
   refine tkI (i := 10) (oi := ⟨some 22, Op.extract (Operand.tmp 12) 0, 66, _, _, none⟩) (v := ?_) rfl (by rfl) ?_ ?_
   rotate_left
   ·intro w hSw
    (try dsimp only at hSw)
    go_simp
    try with_reducible rfl
   try simp only [Act.put, qA, qB, qC]
   refine tkI (i := 11) (oi := ⟨some 23, Op.extract (Operand.tmp 12) 1, 4, _, _, none⟩) (v := ?_) rfl (by rfl) ?_ ?_
   rotate_left
   ·intro w hSw
    (try dsimp only at hSw)
    go_simp
    try with_reducible rfl
   try simp only [Act.put, qA, qB, qC]
   refine tkI (i := 12) (oi := ⟨some 24, Op.extract (Operand.tmp 12) 2, 33, _, _, none⟩) (v := ?_) rfl (by rfl) ?_ ?_
   rotate_left
   ·intro w hSw
    (try dsimp only at hSw)
    go_simp
    try with_reducible rfl
   try simp only [Act.put, qA, qB, qC]
   refine wpAnyH_ready (rs := [14]) (by kernel_rfl) (by simp) ?_
   refine AllReadyH.cons (o := ⟨none, Op.store 66 (Operand.tmp 6) (Operand.tmp 22), 0, _, _, none⟩) rfl (fun K hK => ?_) ?_
   ·go_simp
    first
     | refine hK.out _ _ ?_ (fun hHeld => ?_)
     | (go_wp2_with fail; refine hK.out _ _ ?_ (fun hHeld => ?_))
    ·(try dsimp only)
     obtain ⟨k1, k2, k3⟩ := HKP.out _ HB5.out
     have e1 := Nat.ne_of_lt (HMX.out.lt P.gi (.inl rfl))
     have e2 := Nat.ne_of_lt HBX.out.lt
     exact ⟨keep8 k1 e1 _ _ _ _ _ _ _ _, keep8 k2 e2 _ _ _ _ _ _ _ _, keep8 k3 e2 _ _ _ _ _ _ _ _⟩
    clear hK K
    try simp only [Act.put, qA, qB, qC]
    refine tkI (i := 15) (oi := ⟨some 7, Op.assign (Operand.tmp 23), 4, _, _, none⟩) (v := ?_) rfl (by rfl) ?_ ?_
    rotate_left
    ·intro w hSw
     (try dsimp only at hSw)
     go_simp
     try with_reducible rfl
    try simp only [Act.put, qA, qB, qC]
    refine tkI (i := 16) (oi := ⟨some 8, Op.assign (Operand.tmp 24), 33, _, _, none⟩) (v := ?_) rfl (by rfl) ?_ ?_
    rotate_left
    ·intro w hSw
     (try dsimp only at hSw)
     go_simp
     try with_reducible rfl
    try simp only [Act.put, qA, qB, qC]
    refine wpAnyH_done (by kernel_rfl) ?_ _
    have hst := setR_row hr6 qr
    have hcs := setR_chg w5 X.heap.size qr
    unfold setR at hst hcs
    have hxy : Below X.heap.size X (World.setCell (World.setCell (World.setCell (World.setCell (World.setCell (World.setCell (World.setCell (World.setCell w5 ⟨X.heap.size, 0, none⟩ (.int .i64 qr.er)) ⟨X.heap.size, 1, none⟩ (.int .i64 qr.rs)) ⟨X.heap.size, 2, none⟩ (.int .i64 qr.gn)) ⟨X.heap.size, 3, none⟩ (.int .i64 qr.ad)) ⟨X.heap.size, 4, none⟩ (.int .i64 qr.sa)) ⟨X.heap.size, 5, none⟩ (.int .i64 qr.ot)) ⟨X.heap.size, 6, none⟩ (.int .i64 qr.cy)) ⟨X.heap.size, 7, none⟩ (.int .i64 qr.fu)) := Chg.to_below HB5.out hcs (fun k (e : k = X.heap.size) => Nat.le_of_eq e.symm)
    generalize World.setCell (World.setCell (World.setCell (World.setCell (World.setCell (World.setCell (World.setCell (World.setCell w5 ⟨X.heap.size, 0, none⟩ (.int .i64 qr.er)) ⟨X.heap.size, 1, none⟩ (.int .i64 qr.rs)) ⟨X.heap.size, 2, none⟩ (.int .i64 qr.gn)) ⟨X.heap.size, 3, none⟩ (.int .i64 qr.ad)) ⟨X.heap.size, 4, none⟩ (.int .i64 qr.sa)) ⟨X.heap.size, 5, none⟩ (.int .i64 qr.ot)) ⟨X.heap.size, 6, none⟩ (.int .i64 qr.cy)) ⟨X.heap.size, 7, none⟩ (.int .i64 qr.fu) = Y at hst hcs hxy ⊢
    obtain ⟨b6, hb6⟩ : ∃ b, X.heap.size = b := ⟨_, rfl⟩
    rw [hb6] at hst ⊢
    have HB6 : Hid (X.heap.size ≤ b6) := hide (Nat.le_of_eq hb6)
    clear hr6 j0 j1 j2 j3 j4 j5 j6 j7 f0 f1 f2 f3 f4 f5 f6 f7 hb6 hcs
    have HRY := hide (HRX.out.below hxy)
    have HMY := hide (HMX.out.below hxy)
    have HBY := hide (HBX.out.below hxy)
    have HST := hide hst
    have HWY := hide (HX.out.trans (hxy.mono HX.out.size))
    clear hst hxy hHeld HASK HKP HALX
    by_cases h0 : e0 = 0
    ·subst h0
     cases hdn : dn
     ·subst hdn
      have HI : Hid (ingM m ⟨k, se, sq, a, sp, vo⟩ = (rpN (ingC m.S sp), (keepT m.L se sq m.ix (rpN (ingC m.S sp))).1, { m with S := ingS m.S sp, L := (keepT m.L se sq m.ix (rpN (ingC m.S sp))).2 })) := hide (by
        have h1 := HQ.out
        unfold ingM
        dsimp only
        rw [h1]
        exact if_neg (fun e => by rcases e with e | e <;> simp at e))
      obtain ⟨C, hC⟩ : ∃ C, ingC m.S sp = C := ⟨_, rfl⟩
      obtain ⟨S1, hS1⟩ : ∃ S, ingS m.S sp = S := ⟨_, rfl⟩
      rw [hC, hS1] at HI
      have HOP : Hid (∀ U, Below Y.heap.size Y U → Calls Tryz.prog 181 #[.pointer (some ⟨P.gs, 0, none⟩), .slice p n d] U (fun e w' => e = .returned (.tuple #[cnV C, .int .i64 (ingE sp)]) ∧ ∃ R', SoTo U w' P.gs P.bm P.R R' S1)) := hide fun U hU => by
        have hh := singest_any (HMY.out.below hU).so (HV.out.1.below (HWY.out.trans (hU.mono HWY.out.size))) HV.out.2.1 HV.out.2.2
        unfold IngPost at hh
        rw [HM.out.pl, hC, hS1] at hh
        exact hh
      have HKY : Hid (∀ U, Below Y.heap.size Y U → U.cell? ⟨P.gi, 0, none⟩ = some (.pointer (some ⟨P.gs, 0, none⟩)) ∧ U.cell? ⟨b, 4, none⟩ = some (.slice p n d)) := hide fun U hU => ⟨(HMY.out.below hU).row.c0, (HBY.out.below hU).box.2.2.2.2.1⟩
      have HALY : Hid (Below Y.heap.size Y (Y.alloc (.cells #[.int .i64 0, .int .i64 0, .int .i64 0, .int .i64 0, .int .i64 0] 64))) := hide ((Below.refl _ _).alloc (Nat.le_refl _) _)
      clear hC hS1
      go_upto_region 4 with fail
      refine wp_region_held_drew (S := (fun U => U.cell? ⟨P.gi, 0, none⟩ = some (.pointer (some ⟨P.gs, 0, none⟩)) ∧ U.cell? ⟨b, 4, none⟩ = some (.slice p n d))) (by kernel_rfl) ?_ (fun hHeld => ?_)
      ·(try dsimp only)
       exact HKY.out _ (bdrew Y 1)
      refine tkI (i := 0) (oi := ⟨some 34, Op.move (Operand.tmp 0), 97, _, _, none⟩) (v := ?_) rfl (by rfl) ?_ ?_
      rotate_left
      ·intro w hSw
       (try dsimp only at hSw)
       go_simp
       try with_reducible rfl
      try simp only [Act.put, qA, qB, qC]
      refine tkI (i := 1) (oi := ⟨some 35, Op.nilCheck (Operand.tmp 34), 0, _, _, none⟩) (v := ?_) rfl (by rfl) ?_ ?_
      rotate_left
      ·intro w hSw
       (try dsimp only at hSw)
       go_simp
       try with_reducible rfl
      try simp only [Act.put, qA, qB, qC]
      refine tkI (i := 2) (oi := ⟨some 36, Op.fieldAddr 131 (Operand.tmp 35) 0, 0, _, _, none⟩) (v := ?_) rfl (by rfl) ?_ ?_
      rotate_left
      ·intro w hSw
       (try dsimp only at hSw)
       go_simp
       try with_reducible rfl
      try simp only [Act.put, qA, qB, qC]
      refine tkI (i := 3) (oi := ⟨some 37, Op.load 126 (Operand.tmp 36), 126, _, _, none⟩) (v := ?_) rfl (by rfl) ?_ ?_
      rotate_left
      ·intro w hSw
       (try dsimp only at hSw)
       go_simp
       try with_reducible rfl
      try simp only [Act.put, qA, qB, qC]
      refine tkI (i := 4) (oi := ⟨some 38, Op.fieldAddr 25 (Operand.tmp 3) 4, 0, _, _, none⟩) (v := ?_) rfl (by rfl) ?_ ?_
      rotate_left
      ·intro w hSw
       (try dsimp only at hSw)
       go_simp
       try with_reducible rfl
      try simp only [Act.put, qA, qB, qC]
      refine tkI (i := 5) (oi := ⟨some 39, Op.load 22 (Operand.tmp 38), 22, _, _, none⟩) (v := ?_) rfl (by rfl) ?_ ?_
      rotate_left
      ·intro w hSw
       (try dsimp only at hSw)
       go_simp
       try with_reducible rfl
      try simp only [Act.put, qA, qB, qC]
      refine wpAnyH_ready (rs := [6, 10]) (by kernel_rfl) (by simp) ?_
      refine AllReadyH.cons (o := ⟨some 40, Op.call { callee := Callee.value (Operand.func 181), args := #[Operand.tmp 37, Operand.tmp 39], argTypes := #[126, 22] }, 141, _, _, none⟩) rfl (fun K hK => ?_) ?_
      ·go_simp
       go_at_call 181
       refine (HOP.out _ (show Below Y.heap.size Y Y.drew from bdrew Y 1)).mono ?_
       rintro e5 w5 ⟨rfl, R', ht5⟩
       unfold cnV
       have HT5 : Hid (McTo w w5 P { P with R := R' } { m with S := S1 }) := hide ((((HMY.out.below (show Below Y.heap.size Y Y.drew from bdrew Y 1)).sto ht5)).from (HWY.out.trans ((show Below Y.heap.size Y Y.drew from bdrew Y 1).mono HWY.out.size)))
       have HC5 : Hid (Chg _ w5 (SoM P.bm P.R)) := hide ht5.chg
       have HR5 := hide ((HRY.out.below (show Below Y.heap.size Y Y.drew from bdrew Y 1)).chg ht5.chg ((HMY.out.below (show Below Y.heap.size Y Y.drew from bdrew Y 1)).so.ne_cell (HRY.out.below (show Below Y.heap.size Y Y.drew from bdrew Y 1)).z.1))
       have HB5c := hide ((HBY.out.below (show Below Y.heap.size Y Y.drew from bdrew Y 1)).chg ht5.chg ((HMY.out.below (show Below Y.heap.size Y Y.drew from bdrew Y 1)).so.ne_cell (HBY.out.below (show Below Y.heap.size Y Y.drew from bdrew Y 1)).box.1))
       have HS5 : Hid (Y.heap.size ≤ w5.heap.size) := hide (Nat.le_trans (show Below Y.heap.size Y Y.drew from bdrew Y 1).size ht5.chg.size)
       have HNR : Hid (¬ McS { P with R := R' } r) := hide (fun hk => by
         rcases ((HMY.out.below (show Below Y.heap.size Y Y.drew from bdrew Y 1)).sto ht5).new _ hk with e | e
         ·have := HRB.out.2.2 r e; have := HRB.out.2.1; omega
         ·exact absurd (Nat.lt_of_lt_of_le HRY.out.lt (Nat.le_trans (show Below Y.heap.size Y Y.drew from bdrew Y 1).size e)) (Nat.lt_irrefl _))
       have HK5 : Hid (w5.cell? ⟨P.gi, 0, none⟩ = some (.pointer (some ⟨P.gs, 0, none⟩)) ∧ w5.cell? ⟨b, 4, none⟩ = some (.slice p n d)) := hide ⟨(HMY.out.below (show Below Y.heap.size Y Y.drew from bdrew Y 1)).so.keep ht5.chg (HMY.out.below (show Below Y.heap.size Y Y.drew from bdrew Y 1)).row.c0, HB5c.out.box.2.2.2.2.1⟩
       clear ht5
       first
        | refine hK.out _ _ ?_ (fun hHeld => ?_)
        | (go_wp2_with fail; refine hK.out _ _ ?_ (fun hHeld => ?_))
       ·(try dsimp only)
        exact HK5.out
       clear hK K
       try simp only [Act.put, qA, qB, qC]
       refine tkI (i := 7) (oi := ⟨some 33, Op.move (Operand.tmp 40), 141, _, _, none⟩) (v := ?_) rfl (by rfl) ?_ ?_
       rotate_left
       ·intro w hSw
        (try dsimp only at hSw)
        go_simp
        try with_reducible rfl
       try simp only [Act.put, qA, qB, qC]
       refine tkI (i := 8) (oi := ⟨some 41, Op.extract (Operand.tmp 33) 0, 64, _, _, none⟩) (v := ?_) rfl (by rfl) ?_ ?_
       rotate_left
       ·intro w hSw
        (try dsimp only at hSw)
        go_simp
        try with_reducible rfl
       try simp only [Act.put, qA, qB, qC]
       refine tkI (i := 9) (oi := ⟨some 42, Op.extract (Operand.tmp 33) 1, 33, _, _, none⟩) (v := ?_) rfl (by rfl) ?_ ?_
       rotate_left
       ·intro w hSw
        (try dsimp only at hSw)
        go_simp
        try with_reducible rfl
       try simp only [Act.put, qA, qB, qC]
       refine wpAnyH_ready (rs := [10]) (by kernel_rfl) (by simp) ?_
       refine AllReadyH.cons (o := ⟨some 9, Op.alloc 64, 0, _, _, none⟩) rfl (fun K hK => ?_) ?_
       ·go_simp
        first
         | refine hK.out _ _ ?_ (fun hHeld => ?_)
         | (go_wp2_with fail; refine hK.out _ _ ?_ (fun hHeld => ?_))
        ·(try dsimp only)
         exact ⟨(Chg.of_below ((Below.refl w5.heap.size w5).alloc (Nat.le_refl _) _) (fun _ => False)).cell HK5.out.1 (fun e => e), (Chg.of_below ((Below.refl w5.heap.size w5).alloc (Nat.le_refl _) _) (fun _ => False)).cell HK5.out.2 (fun e => e)⟩
        clear hK K
        try simp only [Act.put, qA, qB, qC]
        refine wpAnyH_ready (rs := [11]) (by kernel_rfl) (by simp) ?_
        refine AllReadyH.cons (o := ⟨none, Op.store 64 (Operand.tmp 9) (Operand.tmp 41), 0, _, _, none⟩) rfl (fun K hK => ?_) ?_
        ·go_simp
         first
          | refine hK.out _ _ ?_ (fun hHeld => ?_)
          | (go_wp2_with fail; refine hK.out _ _ ?_ (fun hHeld => ?_))
         ·(try dsimp only)
          exact ⟨(Chg.of_below ((Below.refl w5.heap.size w5).alloc (Nat.le_refl _) _) (fun _ => False)).cell HK5.out.1 (fun e => e), (Chg.of_below ((Below.refl w5.heap.size w5).alloc (Nat.le_refl _) _) (fun _ => False)).cell HK5.out.2 (fun e => e)⟩
         clear hK K
         try simp only [Act.put, qA, qB, qC]
         refine tkI (i := 12) (oi := ⟨some 10, Op.assign (Operand.tmp 42), 33, _, _, none⟩) (v := ?_) rfl (by rfl) ?_ ?_
         rotate_left
         ·intro w hSw
          (try dsimp only at hSw)
          go_simp
          try with_reducible rfl
         try simp only [Act.put, qA, qB, qC]
         refine wpAnyH_done (by kernel_rfl) ?_ _
         have hst := RowN.new w5 (.int .i64 (C.add : Nat)) (.int .i64 (C.same : Nat)) (.int .i64 (C.other : Nat)) (.int .i64 (C.cyc : Nat)) (.int .i64 (C.full : Nat))
         have hbl : Below w5.heap.size w5 (w5.alloc (.cells #[.int .i64 (C.add : Nat), .int .i64 (C.same : Nat), .int .i64 (C.other : Nat), .int .i64 (C.cyc : Nat), .int .i64 (C.full : Nat)] 64)) := (Below.refl w5.heap.size w5).alloc (Nat.le_refl _) _
         have htz := HT5.out.below hbl
         have hrz := HR5.out.below hbl
         have hbz := HB5c.out.below hbl
         generalize w5.alloc (.cells #[.int .i64 (C.add : Nat), .int .i64 (C.same : Nat), .int .i64 (C.other : Nat), .int .i64 (C.cyc : Nat), .int .i64 (C.full : Nat)] 64) = Z at hst htz hrz hbz hbl ⊢
         obtain ⟨b9, hb9⟩ : ∃ b, w5.heap.size = b := ⟨_, rfl⟩
         rw [hb9] at hst ⊢
         clear hb9 hbl
         obtain ⟨z0, z1, z2, z3, z4⟩ := hst.z
         have HTZ := hide htz
         have HRZ := hide hrz
         have HBZ := hide hbz
         clear hst htz hrz hbz HKY HOP HALY hHeld
         go_upto_region 6 with fail
         have hqq : RowR (Z.alloc (.cells #[.int .i64 0, .int .i64 0, .int .i64 0, .int .i64 (C.add : Nat), .int .i64 (C.same : Nat), .int .i64 (C.other : Nat), .int .i64 (C.cyc : Nat), .int .i64 (C.full : Nat)] 66)) Z.heap.size (rpN C) := RowR.new Z (rpN C)
         have hbl : Below Z.heap.size Z (Z.alloc (.cells #[.int .i64 0, .int .i64 0, .int .i64 0, .int .i64 (C.add : Nat), .int .i64 (C.same : Nat), .int .i64 (C.other : Nat), .int .i64 (C.cyc : Nat), .int .i64 (C.full : Nat)] 66)) := (Below.refl Z.heap.size Z).alloc (Nat.le_refl _) _
         generalize Z.alloc (.cells #[.int .i64 0, .int .i64 0, .int .i64 0, .int .i64 (C.add : Nat), .int .i64 (C.same : Nat), .int .i64 (C.other : Nat), .int .i64 (C.cyc : Nat), .int .i64 (C.full : Nat)] 66) = Q at hqq hbl ⊢
         obtain ⟨b11, hb11⟩ : ∃ b, Z.heap.size = b := ⟨_, rfl⟩
         have HNB : Hid (¬ r = P.bt ∧ ¬ b11 = P.bt ∧ ¬ b = P.bt) := hide (by
           have h1 := HRB.out
           have h2 := h1.2.2 P.bt (.inr (.inr (.inl rfl)))
           have h3 := HTZ.out.is.lt P.bt (.inr (.inr (.inl rfl)))
           exact ⟨by omega, by omega, by omega⟩)
         have HNB2 : Hid (¬ P.gi = r ∧ ¬ b = r ∧ ¬ b11 = r) := hide (by
           have h1 := HRB.out
           have h2 := h1.2.2 P.gi (.inl rfl)
           have h3 := HRZ.out.lt
           exact ⟨by omega, by omega, by omega⟩)
         have HTQ := hide (HTZ.out.below hbl)
         have HRQ := hide (HRZ.out.below hbl)
         have HBQ := hide (HBZ.out.below hbl)
         have HMQ := hide (HTZ.out.is.below hbl)
         rw [hb11] at hqq ⊢
         have HQQ := hide hqq
         obtain ⟨ix, hix⟩ : ∃ i, m.ix = i := ⟨_, rfl⟩
         obtain ⟨E1, L1, hE⟩ : ∃ E L, keepT m.L se sq m.ix (rpN C) = (E, L) := ⟨_, _, rfl⟩
         have HI2 : Hid (ingM m ⟨k, se, sq, a, sp, vo⟩ = (rpN C, E1, { m with S := S1, L := L1 })) := hide (by rw [HI.out, hE])
         have HCQ : Hid (Q.cell? ⟨P.gi, 1, none⟩ = some (.pointer (some ⟨P.gt, 0, none⟩)) ∧ Q.cell? ⟨P.gi, 2, none⟩ = some (.int .i64 ix)) := hide ⟨HMQ.out.row.c1, by rw [← hix]; exact HMQ.out.row.c2⟩
         have HKE : Hid (Calls Tryz.prog 182 #[.pointer (some ⟨P.gt, 0, none⟩), .int .i64 se, .int .i64 sq, .int .i64 ix, .agg #[.int .i64 0, .int .i64 0, .int .i64 0, .int .i64 (C.add : Nat), .int .i64 (C.same : Nat), .int .i64 (C.other : Nat), .int .i64 (C.cyc : Nat), .int .i64 (C.full : Nat)]] Q.drew (TabPost Q.drew P.gt P.bt E1 L1)) := hide (by
           have hh := ses_keep_any (HMQ.out.drewN 1).tb (n := se) (m := sq) (a := m.ix) (r := rpN C) (WalkArith.wf_i64 (by have := H12.out; omega)) (by have := H12.out; omega) (by have := H12.out; omega)
           dsimp only at hh
           rw [hE, hix] at hh
           exact hh)
         clear hix hE hqq hbl z0 z1 z2 z3 z4
         refine wp_region_held_drew (S := (fun U => U.cell? ⟨P.gi, 1, none⟩ = some (.pointer (some ⟨P.gt, 0, none⟩)) ∧ U.cell? ⟨P.gi, 2, none⟩ = some (.int .i64 ix) ∧ U.cell? ⟨b, 1, none⟩ = some (.int .i64 se) ∧ U.cell? ⟨b, 2, none⟩ = some (.int .i64 sq) ∧ U.cell? ⟨b11, 0, none⟩ = some (.int .i64 0) ∧ U.cell? ⟨b11, 1, none⟩ = some (.int .i64 0) ∧ U.cell? ⟨b11, 2, none⟩ = some (.int .i64 0) ∧ U.cell? ⟨b11, 3, none⟩ = some (.int .i64 (C.add : Nat)) ∧ U.cell? ⟨b11, 4, none⟩ = some (.int .i64 (C.same : Nat)) ∧ U.cell? ⟨b11, 5, none⟩ = some (.int .i64 (C.other : Nat)) ∧ U.cell? ⟨b11, 6, none⟩ = some (.int .i64 (C.cyc : Nat)) ∧ U.cell? ⟨b11, 7, none⟩ = some (.int .i64 (C.full : Nat)))) (by kernel_rfl) ?_ (fun hHeld => ?_)
         ·(try dsimp only)
          exact ⟨HCQ.out.1, HCQ.out.2, HBQ.out.box.2.1, HBQ.out.box.2.2.1, HQQ.out.z⟩
         refine tkI (i := 0) (oi := ⟨some 45, Op.load 66 (Operand.tmp 11), 66, _, _, none⟩) (v := (.agg #[.int .i64 0, .int .i64 0, .int .i64 0, .int .i64 (C.add : Nat), .int .i64 (C.same : Nat), .int .i64 (C.other : Nat), .int .i64 (C.cyc : Nat), .int .i64 (C.full : Nat)])) rfl (by rfl) ?_ ?_
         ·intro w hSw
          (try dsimp only at hSw)
          go_simp
          try with_reducible rfl
         try simp only [Act.put, qA, qB, qC]
         refine tkI (i := 1) (oi := ⟨some 46, Op.move (Operand.tmp 0), 97, _, _, none⟩) (v := ?_) rfl (by rfl) ?_ ?_
         rotate_left
         ·intro w hSw
          (try dsimp only at hSw)
          go_simp
          try with_reducible rfl
         try simp only [Act.put, qA, qB, qC]
         refine tkI (i := 2) (oi := ⟨some 47, Op.nilCheck (Operand.tmp 46), 0, _, _, none⟩) (v := ?_) rfl (by rfl) ?_ ?_
         rotate_left
         ·intro w hSw
          (try dsimp only at hSw)
          go_simp
          try with_reducible rfl
         try simp only [Act.put, qA, qB, qC]
         refine tkI (i := 3) (oi := ⟨some 48, Op.fieldAddr 131 (Operand.tmp 47) 1, 0, _, _, none⟩) (v := ?_) rfl (by rfl) ?_ ?_
         rotate_left
         ·intro w hSw
          (try dsimp only at hSw)
          go_simp
          try with_reducible rfl
         try simp only [Act.put, qA, qB, qC]
         refine tkI (i := 4) (oi := ⟨some 49, Op.load 128 (Operand.tmp 48), 128, _, _, none⟩) (v := ?_) rfl (by rfl) ?_ ?_
         rotate_left
         ·intro w hSw
          (try dsimp only at hSw)
          go_simp
          try with_reducible rfl
         try simp only [Act.put, qA, qB, qC]
         refine tkI (i := 5) (oi := ⟨some 50, Op.fieldAddr 25 (Operand.tmp 3) 1, 0, _, _, none⟩) (v := ?_) rfl (by rfl) ?_ ?_
         rotate_left
         ·intro w hSw
          (try dsimp only at hSw)
          go_simp
          try with_reducible rfl
         try simp only [Act.put, qA, qB, qC]
         refine tkI (i := 6) (oi := ⟨some 51, Op.load 3 (Operand.tmp 50), 3, _, _, none⟩) (v := ?_) rfl (by rfl) ?_ ?_
         rotate_left
         ·intro w hSw
          (try dsimp only at hSw)
          go_simp
          try with_reducible rfl
         try simp only [Act.put, qA, qB, qC]
         refine tkI (i := 7) (oi := ⟨some 52, Op.fieldAddr 25 (Operand.tmp 3) 2, 0, _, _, none⟩) (v := ?_) rfl (by rfl) ?_ ?_
         rotate_left
         ·intro w hSw
          (try dsimp only at hSw)
          go_simp
          try with_reducible rfl
         try simp only [Act.put, qA, qB, qC]
         refine tkI (i := 8) (oi := ⟨some 53, Op.load 3 (Operand.tmp 52), 3, _, _, none⟩) (v := ?_) rfl (by rfl) ?_ ?_
         rotate_left
         ·intro w hSw
          (try dsimp only at hSw)
          go_simp
          try with_reducible rfl
         try simp only [Act.put, qA, qB, qC]
         refine tkI (i := 9) (oi := ⟨some 54, Op.move (Operand.tmp 0), 97, _, _, none⟩) (v := ?_) rfl (by rfl) ?_ ?_
         rotate_left
         ·intro w hSw
          (try dsimp only at hSw)
          go_simp
          try with_reducible rfl
         try simp only [Act.put, qA, qB, qC]
         refine tkI (i := 10) (oi := ⟨some 55, Op.nilCheck (Operand.tmp 54), 0, _, _, none⟩) (v := ?_) rfl (by rfl) ?_ ?_
         rotate_left
         ·intro w hSw
          (try dsimp only at hSw)
          go_simp
          try with_reducible rfl
         try simp only [Act.put, qA, qB, qC]
         refine tkI (i := 11) (oi := ⟨some 56, Op.fieldAddr 131 (Operand.tmp 55) 2, 0, _, _, none⟩) (v := ?_) rfl (by rfl) ?_ ?_
         rotate_left
         ·intro w hSw
          (try dsimp only at hSw)
          go_simp
          try with_reducible rfl
         try simp only [Act.put, qA, qB, qC]
         refine tkI (i := 12) (oi := ⟨some 57, Op.load 3 (Operand.tmp 56), 3, _, _, none⟩) (v := ?_) rfl (by rfl) ?_ ?_
         rotate_left
         ·intro w hSw
          (try dsimp only at hSw)
          go_simp
          try with_reducible rfl
         try simp only [Act.put, qA, qB, qC]
         refine tkI (i := 13) (oi := ⟨some 58, Op.load 66 (Operand.tmp 11), 66, _, _, none⟩) (v := (.agg #[.int .i64 0, .int .i64 0, .int .i64 0, .int .i64 (C.add : Nat), .int .i64 (C.same : Nat), .int .i64 (C.other : Nat), .int .i64 (C.cyc : Nat), .int .i64 (C.full : Nat)])) rfl (by rfl) ?_ ?_
         ·intro w hSw
          (try dsimp only at hSw)
          go_simp
          try with_reducible rfl
         try simp only [Act.put, qA, qB, qC]
         refine wpAnyH_ready (rs := [14]) (by kernel_rfl) (by simp) ?_
         refine AllReadyH.cons (o := ⟨some 59, Op.call { callee := Callee.value (Operand.func 182), args := #[Operand.tmp 49, Operand.tmp 51, Operand.tmp 53, Operand.tmp 57, Operand.tmp 58], argTypes := #[128, 3, 3, 3, 66] }, 33, _, _, none⟩) rfl (fun K hK => ?_) ?_
         ·go_simp
          go_at_call 182
          refine (HKE.out).mono ?_
          rintro e6 w6 ⟨rfl, ht6, hc6⟩
          have HT6 : Hid (McTo w w6 P { P with R := R' } { m with S := S1, L := L1 }) := hide ⟨((HMQ.out.drewN 1).tab ht6 hc6).is, rfl, (HTQ.out.below (bdrew Q 1)).chg.trans hc6 (fun k e => .inl (.inr (.inl e))), HTQ.out.new⟩
          have HR6 := hide ((show RowR Q.drew r rp0 from HRQ.out).chg hc6 HNB.out.1)
          have HQ6 := hide ((show RowR Q.drew b11 (rpN C) from HQQ.out).chg hc6 HNB.out.2.1)
          have HB6q := hide ((show RowC Q.drew b k se sq a (.slice p n d) (.slice q mq f) from HBQ.out).chg hc6 HNB.out.2.2)
          have HM6 : Hid (w6.cell? ⟨P.gi, 1, none⟩ = some (.pointer (some ⟨P.gt, 0, none⟩)) ∧ w6.cell? ⟨P.gi, 2, none⟩ = some (.int .i64 ix)) := hide ⟨hc6.cell HCQ.out.1 HMQ.out.a2.2, hc6.cell HCQ.out.2 HMQ.out.a2.2⟩
          clear ht6 hc6
          obtain ⟨j0, j1, j2, j3, j4, j5, j6, j7⟩ := HR6.out.z
          obtain ⟨f0, f1, f2, f3, f4, f5, f6, f7⟩ := HR6.out.f
          first
           | refine hK.out _ _ ?_ (fun hHeld => ?_)
           | (go_wp2_with fail; refine hK.out _ _ ?_ (fun hHeld => ?_))
          ·(try dsimp only)
           exact ⟨HM6.out.1, HM6.out.2, HB6q.out.box.2.1, HB6q.out.box.2.2.1, HQ6.out.z⟩
          clear hK K
          try simp only [Act.put, qA, qB, qC]
          refine wpAnyH_ready (rs := [15]) (by kernel_rfl) (by simp) ?_
          refine AllReadyH.cons (o := ⟨some 60, Op.call { callee := Callee.value (Operand.func 147), args := #[Operand.tmp 59], argTypes := #[33] }, 175, _, _, none⟩) rfl (fun K hK => ?_) ?_
          ·go_simp
           go_at_call 147
           refine (refused_any E1 _).mono ?_
           rintro e7 w7 ⟨rfl, rfl⟩
           first
            | refine hK.out _ _ ?_ (fun hHeld => ?_)
            | (go_wp2_with fail; refine hK.out _ _ ?_ (fun hHeld => ?_))
           ·(try dsimp only)
            exact ⟨HM6.out.1, HM6.out.2, HB6q.out.box.2.1, HB6q.out.box.2.2.1, HQ6.out.z⟩
           clear hK K
           try simp only [Act.put, qA, qB, qC]
           refine wpAnyH_ready (rs := [16]) (by kernel_rfl) (by simp) ?_
           refine AllReadyH.cons (o := ⟨none, Op.store 66 (Operand.tmp 4) (Operand.tmp 45), 0, _, _, none⟩) rfl (fun K hK => ?_) ?_
           ·go_simp
            first
             | refine hK.out _ _ ?_ (fun hHeld => ?_)
             | (go_wp2_with fail; refine hK.out _ _ ?_ (fun hHeld => ?_))
            ·(try dsimp only)
             have h1 := setR_chg w6 r (rpN C)
             have hne := HNB2.out
             exact ⟨h1.cell HM6.out.1 hne.1, h1.cell HM6.out.2 hne.1, h1.cell HB6q.out.box.2.1 hne.2.1, h1.cell HB6q.out.box.2.2.1 hne.2.1, (HQ6.out.chg h1 hne.2.2).z⟩
            clear hK K
            try simp only [Act.put, qA, qB, qC]
            refine tkI (i := 17) (oi := ⟨some 5, Op.assign (Operand.tmp 60), 175, _, _, none⟩) (v := ?_) rfl (by rfl) ?_ ?_
            rotate_left
            ·intro w hSw
             (try dsimp only at hSw)
             go_simp
             try with_reducible rfl
            try simp only [Act.put, qA, qB, qC]
            refine wpAnyH_done (by kernel_rfl) ?_ _
            go_wp2
            have hst := setR_row HR6.out (rpN C)
            have hcs := setR_chg w6 r (rpN C)
            unfold setR rpN at hst hcs
            dsimp only at hst hcs
            refine bodyPost_ret (v := .tuple #[.agg #[.int .i64 0, .int .i64 0, .int .i64 0, .int .i64 (C.add : Nat), .int .i64 (C.same : Nat), .int .i64 (C.other : Nat), .int .i64 (C.cyc : Nat), .int .i64 (C.full : Nat)], errV E1]) (by
              generalize World.setCell (World.setCell (World.setCell (World.setCell (World.setCell (World.setCell (World.setCell (World.setCell w6 ⟨r, 0, none⟩ (.int .i64 0)) ⟨r, 1, none⟩ (.int .i64 0)) ⟨r, 2, none⟩ (.int .i64 0)) ⟨r, 3, none⟩ (.int .i64 (C.add : Nat))) ⟨r, 4, none⟩ (.int .i64 (C.same : Nat))) ⟨r, 5, none⟩ (.int .i64 (C.other : Nat))) ⟨r, 6, none⟩ (.int .i64 (C.cyc : Nat))) ⟨r, 7, none⟩ (.int .i64 (C.full : Nat)) = W9 at hst ⊢
              obtain ⟨m0, m1, m2, m3, m4, m5, m6, m7⟩ := hst.z
              dsimp only at m0 m1 m2 m3 m4 m5 m6 m7
              simp [results, Tryz.results149, go_sem, m0, m1, m2, m3, m4, m5, m6, m7]) rfl ?_
            rw [HI2.out]
            exact ⟨rfl, { P with R := R' }, HT6.out.box HM.out.er hcs (by have := HRB.out; omega) HNR.out⟩
           exact AllReadyH.nil
          exact AllReadyH.nil
         exact AllReadyH.nil
        exact AllReadyH.nil
       exact AllReadyH.nil
      refine AllReadyH.cons (o := ⟨some 9, Op.alloc 64, 0, _, _, none⟩) rfl (fun K hK => ?_) ?_
      ·go_simp
       first
        | refine hK.out _ _ ?_ (fun hHeld => ?_)
        | (go_wp2_with fail; refine hK.out _ _ ?_ (fun hHeld => ?_))
       ·(try dsimp only)
        exact HKY.out _ HALY.out.drew
       clear hK K
       try simp only [Act.put, qA, qB, qC]
       refine wpAnyH_ready (rs := [6]) (by kernel_rfl) (by simp) ?_
       refine AllReadyH.cons (o := ⟨some 40, Op.call { callee := Callee.value (Operand.func 181), args := #[Operand.tmp 37, Operand.tmp 39], argTypes := #[126, 22] }, 141, _, _, none⟩) rfl (fun K hK => ?_) ?_
       ·go_simp
        go_at_call 181
        refine (HOP.out _ HALY.out.drew).mono ?_
        rintro e5 w5 ⟨rfl, R', ht5⟩
        unfold cnV
        have HT5 : Hid (McTo w w5 P { P with R := R' } { m with S := S1 }) := hide ((((HMY.out.below HALY.out.drew).sto ht5)).from (HWY.out.trans (HALY.out.drew.mono HWY.out.size)))
        have HC5 : Hid (Chg _ w5 (SoM P.bm P.R)) := hide ht5.chg
        have HR5 := hide ((HRY.out.below HALY.out.drew).chg ht5.chg ((HMY.out.below HALY.out.drew).so.ne_cell (HRY.out.below HALY.out.drew).z.1))
        have HB5c := hide ((HBY.out.below HALY.out.drew).chg ht5.chg ((HMY.out.below HALY.out.drew).so.ne_cell (HBY.out.below HALY.out.drew).box.1))
        have HS5 : Hid (Y.heap.size ≤ w5.heap.size) := hide (Nat.le_trans HALY.out.drew.size ht5.chg.size)
        have HNR : Hid (¬ McS { P with R := R' } r) := hide (fun hk => by
          rcases ((HMY.out.below HALY.out.drew).sto ht5).new _ hk with e | e
          ·have := HRB.out.2.2 r e; have := HRB.out.2.1; omega
          ·exact absurd (Nat.lt_of_lt_of_le HRY.out.lt (Nat.le_trans HALY.out.drew.size e)) (Nat.lt_irrefl _))
        have HK5 : Hid (w5.cell? ⟨P.gi, 0, none⟩ = some (.pointer (some ⟨P.gs, 0, none⟩)) ∧ w5.cell? ⟨b, 4, none⟩ = some (.slice p n d)) := hide ⟨(HMY.out.below HALY.out.drew).so.keep ht5.chg (HMY.out.below HALY.out.drew).row.c0, HB5c.out.box.2.2.2.2.1⟩
        have hr9 := ((show RowN (Y.alloc (.cells #[.int .i64 0, .int .i64 0, .int .i64 0, .int .i64 0, .int .i64 0] 64)).drew Y.heap.size (.int .i64 0) (.int .i64 0) (.int .i64 0) (.int .i64 0) (.int .i64 0) from RowN.new Y _ _ _ _ _)).chg ht5.chg ((HMY.out.below HALY.out.drew).so.ne_cell (show RowN (Y.alloc (.cells #[.int .i64 0, .int .i64 0, .int .i64 0, .int .i64 0, .int .i64 0] 64)).drew Y.heap.size (.int .i64 0) (.int .i64 0) (.int .i64 0) (.int .i64 0) (.int .i64 0) from RowN.new Y _ _ _ _ _).z.1)
        have HN9 : Hid (¬ McS { P with R := R' } Y.heap.size) := hide (fun hk => by
          rcases ((HMY.out.below HALY.out.drew).sto ht5).new _ hk with e | e
          ·exact absurd (HMY.out.lt _ e) (Nat.lt_irrefl _)
          ·have e1 : Y.heap.size + 1 ≤ Y.heap.size := by simpa using e
           omega)
        clear ht5
        obtain ⟨j0, j1, j2, j3, j4⟩ := hr9.z
        obtain ⟨f0, f1, f2, f3, f4⟩ := hr9.f
        first
         | refine hK.out _ _ ?_ (fun hHeld => ?_)
         | (go_wp2_with fail; refine hK.out _ _ ?_ (fun hHeld => ?_))
        ·(try dsimp only)
         exact HK5.out
        clear hK K
        try simp only [Act.put, qA, qB, qC]
        refine tkI (i := 7) (oi := ⟨some 33, Op.move (Operand.tmp 40), 141, _, _, none⟩) (v := ?_) rfl (by rfl) ?_ ?_
        rotate_left
        ·intro w hSw
         (try dsimp only at hSw)
         go_simp
         try with_reducible rfl
        try simp only [Act.put, qA, qB, qC]
        refine tkI (i := 8) (oi := ⟨some 41, Op.extract (Operand.tmp 33) 0, 64, _, _, none⟩) (v := ?_) rfl (by rfl) ?_ ?_
        rotate_left
        ·intro w hSw
         (try dsimp only at hSw)
         go_simp
         try with_reducible rfl
        try simp only [Act.put, qA, qB, qC]
        refine tkI (i := 9) (oi := ⟨some 42, Op.extract (Operand.tmp 33) 1, 33, _, _, none⟩) (v := ?_) rfl (by rfl) ?_ ?_
        rotate_left
        ·intro w hSw
         (try dsimp only at hSw)
         go_simp
         try with_reducible rfl
        try simp only [Act.put, qA, qB, qC]
        refine wpAnyH_ready (rs := [11]) (by kernel_rfl) (by simp) ?_
        refine AllReadyH.cons (o := ⟨none, Op.store 64 (Operand.tmp 9) (Operand.tmp 41), 0, _, _, none⟩) rfl (fun K hK => ?_) ?_
        ·go_simp
         first
          | refine hK.out _ _ ?_ (fun hHeld => ?_)
          | (go_wp2_with fail; refine hK.out _ _ ?_ (fun hHeld => ?_))
         ·(try dsimp only)
          have h1 := chgN w5 Y.heap.size (.int .i64 (C.add : Nat)) (.int .i64 (C.same : Nat)) (.int .i64 (C.other : Nat)) (.int .i64 (C.cyc : Nat)) (.int .i64 (C.full : Nat))
          exact ⟨h1.cell HK5.out.1 (Nat.ne_of_lt (HMY.out.lt P.gi (.inl rfl))), h1.cell HK5.out.2 (Nat.ne_of_lt HBY.out.lt)⟩
         clear hK K
         try simp only [Act.put, qA, qB, qC]
         refine tkI (i := 12) (oi := ⟨some 10, Op.assign (Operand.tmp 42), 33, _, _, none⟩) (v := ?_) rfl (by rfl) ?_ ?_
         rotate_left
         ·intro w hSw
          (try dsimp only at hSw)
          go_simp
          try with_reducible rfl
         try simp only [Act.put, qA, qB, qC]
         refine wpAnyH_done (by kernel_rfl) ?_ _
         have hst := ((((hr9.s0 (.int .i64 (C.add : Nat))).s1 (.int .i64 (C.same : Nat))).s2 (.int .i64 (C.other : Nat))).s3 (.int .i64 (C.cyc : Nat))).s4 (.int .i64 (C.full : Nat))
         have hcs := chgN w5 Y.heap.size (.int .i64 (C.add : Nat)) (.int .i64 (C.same : Nat)) (.int .i64 (C.other : Nat)) (.int .i64 (C.cyc : Nat)) (.int .i64 (C.full : Nat))
         have htz := HT5.out.box HM.out.er hcs HWY.out.size HN9.out
         have hrz := HR5.out.chg hcs (Nat.ne_of_lt HRY.out.lt)
         have hbz := HB5c.out.chg hcs (Nat.ne_of_lt HBY.out.lt)
         generalize World.setCell (World.setCell (World.setCell (World.setCell (World.setCell w5 ⟨Y.heap.size, 0, none⟩ (.int .i64 (C.add : Nat))) ⟨Y.heap.size, 1, none⟩ (.int .i64 (C.same : Nat))) ⟨Y.heap.size, 2, none⟩ (.int .i64 (C.other : Nat))) ⟨Y.heap.size, 3, none⟩ (.int .i64 (C.cyc : Nat))) ⟨Y.heap.size, 4, none⟩ (.int .i64 (C.full : Nat)) = Z at hst htz hrz hbz ⊢
         obtain ⟨b9, hb9⟩ : ∃ b, Y.heap.size = b := ⟨_, rfl⟩
         rw [hb9] at hst ⊢
         clear hr9 j0 j1 j2 j3 j4 f0 f1 f2 f3 f4 hcs hb9
         obtain ⟨z0, z1, z2, z3, z4⟩ := hst.z
         have HTZ := hide htz
         have HRZ := hide hrz
         have HBZ := hide hbz
         clear hst htz hrz hbz HKY HOP HALY hHeld
         go_upto_region 6 with fail
         have hqq : RowR (Z.alloc (.cells #[.int .i64 0, .int .i64 0, .int .i64 0, .int .i64 (C.add : Nat), .int .i64 (C.same : Nat), .int .i64 (C.other : Nat), .int .i64 (C.cyc : Nat), .int .i64 (C.full : Nat)] 66)) Z.heap.size (rpN C) := RowR.new Z (rpN C)
         have hbl : Below Z.heap.size Z (Z.alloc (.cells #[.int .i64 0, .int .i64 0, .int .i64 0, .int .i64 (C.add : Nat), .int .i64 (C.same : Nat), .int .i64 (C.other : Nat), .int .i64 (C.cyc : Nat), .int .i64 (C.full : Nat)] 66)) := (Below.refl Z.heap.size Z).alloc (Nat.le_refl _) _
         generalize Z.alloc (.cells #[.int .i64 0, .int .i64 0, .int .i64 0, .int .i64 (C.add : Nat), .int .i64 (C.same : Nat), .int .i64 (C.other : Nat), .int .i64 (C.cyc : Nat), .int .i64 (C.full : Nat)] 66) = Q at hqq hbl ⊢
         obtain ⟨b11, hb11⟩ : ∃ b, Z.heap.size = b := ⟨_, rfl⟩
         have HNB : Hid (¬ r = P.bt ∧ ¬ b11 = P.bt ∧ ¬ b = P.bt) := hide (by
           have h1 := HRB.out
           have h2 := h1.2.2 P.bt (.inr (.inr (.inl rfl)))
           have h3 := HTZ.out.is.lt P.bt (.inr (.inr (.inl rfl)))
           exact ⟨by omega, by omega, by omega⟩)
         have HNB2 : Hid (¬ P.gi = r ∧ ¬ b = r ∧ ¬ b11 = r) := hide (by
           have h1 := HRB.out
           have h2 := h1.2.2 P.gi (.inl rfl)
           have h3 := HRZ.out.lt
           exact ⟨by omega, by omega, by omega⟩)
         have HTQ := hide (HTZ.out.below hbl)
         have HRQ := hide (HRZ.out.below hbl)
         have HBQ := hide (HBZ.out.below hbl)
         have HMQ := hide (HTZ.out.is.below hbl)
         rw [hb11] at hqq ⊢
         have HQQ := hide hqq
         obtain ⟨ix, hix⟩ : ∃ i, m.ix = i := ⟨_, rfl⟩
         obtain ⟨E1, L1, hE⟩ : ∃ E L, keepT m.L se sq m.ix (rpN C) = (E, L) := ⟨_, _, rfl⟩
         have HI2 : Hid (ingM m ⟨k, se, sq, a, sp, vo⟩ = (rpN C, E1, { m with S := S1, L := L1 })) := hide (by rw [HI.out, hE])
         have HCQ : Hid (Q.cell? ⟨P.gi, 1, none⟩ = some (.pointer (some ⟨P.gt, 0, none⟩)) ∧ Q.cell? ⟨P.gi, 2, none⟩ = some (.int .i64 ix)) := hide ⟨HMQ.out.row.c1, by rw [← hix]; exact HMQ.out.row.c2⟩
         have HKE : Hid (Calls Tryz.prog 182 #[.pointer (some ⟨P.gt, 0, none⟩), .int .i64 se, .int .i64 sq, .int .i64 ix, .agg #[.int .i64 0, .int .i64 0, .int .i64 0, .int .i64 (C.add : Nat), .int .i64 (C.same : Nat), .int .i64 (C.other : Nat), .int .i64 (C.cyc : Nat), .int .i64 (C.full : Nat)]] Q.drew (TabPost Q.drew P.gt P.bt E1 L1)) := hide (by
           have hh := ses_keep_any (HMQ.out.drewN 1).tb (n := se) (m := sq) (a := m.ix) (r := rpN C) (WalkArith.wf_i64 (by have := H12.out; omega)) (by have := H12.out; omega) (by have := H12.out; omega)
           dsimp only at hh
           rw [hE, hix] at hh
           exact hh)
         clear hix hE hqq hbl z0 z1 z2 z3 z4
         refine wp_region_held_drew (S := (fun U => U.cell? ⟨P.gi, 1, none⟩ = some (.pointer (some ⟨P.gt, 0, none⟩)) ∧ U.cell? ⟨P.gi, 2, none⟩ = some (.int .i64 ix) ∧ U.cell? ⟨b, 1, none⟩ = some (.int .i64 se) ∧ U.cell? ⟨b, 2, none⟩ = some (.int .i64 sq) ∧ U.cell? ⟨b11, 0, none⟩ = some (.int .i64 0) ∧ U.cell? ⟨b11, 1, none⟩ = some (.int .i64 0) ∧ U.cell? ⟨b11, 2, none⟩ = some (.int .i64 0) ∧ U.cell? ⟨b11, 3, none⟩ = some (.int .i64 (C.add : Nat)) ∧ U.cell? ⟨b11, 4, none⟩ = some (.int .i64 (C.same : Nat)) ∧ U.cell? ⟨b11, 5, none⟩ = some (.int .i64 (C.other : Nat)) ∧ U.cell? ⟨b11, 6, none⟩ = some (.int .i64 (C.cyc : Nat)) ∧ U.cell? ⟨b11, 7, none⟩ = some (.int .i64 (C.full : Nat)))) (by kernel_rfl) ?_ (fun hHeld => ?_)
         ·(try dsimp only)
          exact ⟨HCQ.out.1, HCQ.out.2, HBQ.out.box.2.1, HBQ.out.box.2.2.1, HQQ.out.z⟩
         refine tkI (i := 0) (oi := ⟨some 45, Op.load 66 (Operand.tmp 11), 66, _, _, none⟩) (v := (.agg #[.int .i64 0, .int .i64 0, .int .i64 0, .int .i64 (C.add : Nat), .int .i64 (C.same : Nat), .int .i64 (C.other : Nat), .int .i64 (C.cyc : Nat), .int .i64 (C.full : Nat)])) rfl (by rfl) ?_ ?_
         ·intro w hSw
          (try dsimp only at hSw)
          go_simp
          try with_reducible rfl
         try simp only [Act.put, qA, qB, qC]
         refine tkI (i := 1) (oi := ⟨some 46, Op.move (Operand.tmp 0), 97, _, _, none⟩) (v := ?_) rfl (by rfl) ?_ ?_
         rotate_left
         ·intro w hSw
          (try dsimp only at hSw)
          go_simp
          try with_reducible rfl
         try simp only [Act.put, qA, qB, qC]
         refine tkI (i := 2) (oi := ⟨some 47, Op.nilCheck (Operand.tmp 46), 0, _, _, none⟩) (v := ?_) rfl (by rfl) ?_ ?_
         rotate_left
         ·intro w hSw
          (try dsimp only at hSw)
          go_simp
          try with_reducible rfl
         try simp only [Act.put, qA, qB, qC]
         refine tkI (i := 3) (oi := ⟨some 48, Op.fieldAddr 131 (Operand.tmp 47) 1, 0, _, _, none⟩) (v := ?_) rfl (by rfl) ?_ ?_
         rotate_left
         ·intro w hSw
          (try dsimp only at hSw)
          go_simp
          try with_reducible rfl
         try simp only [Act.put, qA, qB, qC]
         refine tkI (i := 4) (oi := ⟨some 49, Op.load 128 (Operand.tmp 48), 128, _, _, none⟩) (v := ?_) rfl (by rfl) ?_ ?_
         rotate_left
         ·intro w hSw
          (try dsimp only at hSw)
          go_simp
          try with_reducible rfl
         try simp only [Act.put, qA, qB, qC]
         refine tkI (i := 5) (oi := ⟨some 50, Op.fieldAddr 25 (Operand.tmp 3) 1, 0, _, _, none⟩) (v := ?_) rfl (by rfl) ?_ ?_
         rotate_left
         ·intro w hSw
          (try dsimp only at hSw)
          go_simp
          try with_reducible rfl
         try simp only [Act.put, qA, qB, qC]
         refine tkI (i := 6) (oi := ⟨some 51, Op.load 3 (Operand.tmp 50), 3, _, _, none⟩) (v := ?_) rfl (by rfl) ?_ ?_
         rotate_left
         ·intro w hSw
          (try dsimp only at hSw)
          go_simp
          try with_reducible rfl
         try simp only [Act.put, qA, qB, qC]
         refine tkI (i := 7) (oi := ⟨some 52, Op.fieldAddr 25 (Operand.tmp 3) 2, 0, _, _, none⟩) (v := ?_) rfl (by rfl) ?_ ?_
         rotate_left
         ·intro w hSw
          (try dsimp only at hSw)
          go_simp
          try with_reducible rfl
         try simp only [Act.put, qA, qB, qC]
         refine tkI (i := 8) (oi := ⟨some 53, Op.load 3 (Operand.tmp 52), 3, _, _, none⟩) (v := ?_) rfl (by rfl) ?_ ?_
         rotate_left
         ·intro w hSw
          (try dsimp only at hSw)
          go_simp
          try with_reducible rfl
         try simp only [Act.put, qA, qB, qC]
         refine tkI (i := 9) (oi := ⟨some 54, Op.move (Operand.tmp 0), 97, _, _, none⟩) (v := ?_) rfl (by rfl) ?_ ?_
         rotate_left
         ·intro w hSw
          (try dsimp only at hSw)
          go_simp
          try with_reducible rfl
         try simp only [Act.put, qA, qB, qC]
         refine tkI (i := 10) (oi := ⟨some 55, Op.nilCheck (Operand.tmp 54), 0, _, _, none⟩) (v := ?_) rfl (by rfl) ?_ ?_
         rotate_left
         ·intro w hSw
          (try dsimp only at hSw)
          go_simp
          try with_reducible rfl
         try simp only [Act.put, qA, qB, qC]
         refine tkI (i := 11) (oi := ⟨some 56, Op.fieldAddr 131 (Operand.tmp 55) 2, 0, _, _, none⟩) (v := ?_) rfl (by rfl) ?_ ?_
         rotate_left
         ·intro w hSw
          (try dsimp only at hSw)
          go_simp
          try with_reducible rfl
         try simp only [Act.put, qA, qB, qC]
         refine tkI (i := 12) (oi := ⟨some 57, Op.load 3 (Operand.tmp 56), 3, _, _, none⟩) (v := ?_) rfl (by rfl) ?_ ?_
         rotate_left
         ·intro w hSw
          (try dsimp only at hSw)
          go_simp
          try with_reducible rfl
         try simp only [Act.put, qA, qB, qC]
         refine tkI (i := 13) (oi := ⟨some 58, Op.load 66 (Operand.tmp 11), 66, _, _, none⟩) (v := (.agg #[.int .i64 0, .int .i64 0, .int .i64 0, .int .i64 (C.add : Nat), .int .i64 (C.same : Nat), .int .i64 (C.other : Nat), .int .i64 (C.cyc : Nat), .int .i64 (C.full : Nat)])) rfl (by rfl) ?_ ?_
         ·intro w hSw
          (try dsimp only at hSw)
          go_simp
          try with_reducible rfl
         try simp only [Act.put, qA, qB, qC]
         refine wpAnyH_ready (rs := [14]) (by kernel_rfl) (by simp) ?_
         refine AllReadyH.cons (o := ⟨some 59, Op.call { callee := Callee.value (Operand.func 182), args := #[Operand.tmp 49, Operand.tmp 51, Operand.tmp 53, Operand.tmp 57, Operand.tmp 58], argTypes := #[128, 3, 3, 3, 66] }, 33, _, _, none⟩) rfl (fun K hK => ?_) ?_
         ·go_simp
          go_at_call 182
          refine (HKE.out).mono ?_
          rintro e6 w6 ⟨rfl, ht6, hc6⟩
          have HT6 : Hid (McTo w w6 P { P with R := R' } { m with S := S1, L := L1 }) := hide ⟨((HMQ.out.drewN 1).tab ht6 hc6).is, rfl, (HTQ.out.below (bdrew Q 1)).chg.trans hc6 (fun k e => .inl (.inr (.inl e))), HTQ.out.new⟩
          have HR6 := hide ((show RowR Q.drew r rp0 from HRQ.out).chg hc6 HNB.out.1)
          have HQ6 := hide ((show RowR Q.drew b11 (rpN C) from HQQ.out).chg hc6 HNB.out.2.1)
          have HB6q := hide ((show RowC Q.drew b k se sq a (.slice p n d) (.slice q mq f) from HBQ.out).chg hc6 HNB.out.2.2)
          have HM6 : Hid (w6.cell? ⟨P.gi, 1, none⟩ = some (.pointer (some ⟨P.gt, 0, none⟩)) ∧ w6.cell? ⟨P.gi, 2, none⟩ = some (.int .i64 ix)) := hide ⟨hc6.cell HCQ.out.1 HMQ.out.a2.2, hc6.cell HCQ.out.2 HMQ.out.a2.2⟩
          clear ht6 hc6
          obtain ⟨j0, j1, j2, j3, j4, j5, j6, j7⟩ := HR6.out.z
          obtain ⟨f0, f1, f2, f3, f4, f5, f6, f7⟩ := HR6.out.f
          first
           | refine hK.out _ _ ?_ (fun hHeld => ?_)
           | (go_wp2_with fail; refine hK.out _ _ ?_ (fun hHeld => ?_))
          ·(try dsimp only)
           exact ⟨HM6.out.1, HM6.out.2, HB6q.out.box.2.1, HB6q.out.box.2.2.1, HQ6.out.z⟩
          clear hK K
          try simp only [Act.put, qA, qB, qC]
          refine wpAnyH_ready (rs := [15]) (by kernel_rfl) (by simp) ?_
          refine AllReadyH.cons (o := ⟨some 60, Op.call { callee := Callee.value (Operand.func 147), args := #[Operand.tmp 59], argTypes := #[33] }, 175, _, _, none⟩) rfl (fun K hK => ?_) ?_
          ·go_simp
           go_at_call 147
           refine (refused_any E1 _).mono ?_
           rintro e7 w7 ⟨rfl, rfl⟩
           first
            | refine hK.out _ _ ?_ (fun hHeld => ?_)
            | (go_wp2_with fail; refine hK.out _ _ ?_ (fun hHeld => ?_))
           ·(try dsimp only)
            exact ⟨HM6.out.1, HM6.out.2, HB6q.out.box.2.1, HB6q.out.box.2.2.1, HQ6.out.z⟩
           clear hK K
           try simp only [Act.put, qA, qB, qC]
           refine wpAnyH_ready (rs := [16]) (by kernel_rfl) (by simp) ?_
           refine AllReadyH.cons (o := ⟨none, Op.store 66 (Operand.tmp 4) (Operand.tmp 45), 0, _, _, none⟩) rfl (fun K hK => ?_) ?_
           ·go_simp
            first
             | refine hK.out _ _ ?_ (fun hHeld => ?_)
             | (go_wp2_with fail; refine hK.out _ _ ?_ (fun hHeld => ?_))
            ·(try dsimp only)
             have h1 := setR_chg w6 r (rpN C)
             have hne := HNB2.out
             exact ⟨h1.cell HM6.out.1 hne.1, h1.cell HM6.out.2 hne.1, h1.cell HB6q.out.box.2.1 hne.2.1, h1.cell HB6q.out.box.2.2.1 hne.2.1, (HQ6.out.chg h1 hne.2.2).z⟩
            clear hK K
            try simp only [Act.put, qA, qB, qC]
            refine tkI (i := 17) (oi := ⟨some 5, Op.assign (Operand.tmp 60), 175, _, _, none⟩) (v := ?_) rfl (by rfl) ?_ ?_
            rotate_left
            ·intro w hSw
             (try dsimp only at hSw)
             go_simp
             try with_reducible rfl
            try simp only [Act.put, qA, qB, qC]
            refine wpAnyH_done (by kernel_rfl) ?_ _
            go_wp2
            have hst := setR_row HR6.out (rpN C)
            have hcs := setR_chg w6 r (rpN C)
            unfold setR rpN at hst hcs
            dsimp only at hst hcs
            refine bodyPost_ret (v := .tuple #[.agg #[.int .i64 0, .int .i64 0, .int .i64 0, .int .i64 (C.add : Nat), .int .i64 (C.same : Nat), .int .i64 (C.other : Nat), .int .i64 (C.cyc : Nat), .int .i64 (C.full : Nat)], errV E1]) (by
              generalize World.setCell (World.setCell (World.setCell (World.setCell (World.setCell (World.setCell (World.setCell (World.setCell w6 ⟨r, 0, none⟩ (.int .i64 0)) ⟨r, 1, none⟩ (.int .i64 0)) ⟨r, 2, none⟩ (.int .i64 0)) ⟨r, 3, none⟩ (.int .i64 (C.add : Nat))) ⟨r, 4, none⟩ (.int .i64 (C.same : Nat))) ⟨r, 5, none⟩ (.int .i64 (C.other : Nat))) ⟨r, 6, none⟩ (.int .i64 (C.cyc : Nat))) ⟨r, 7, none⟩ (.int .i64 (C.full : Nat)) = W9 at hst ⊢
              obtain ⟨m0, m1, m2, m3, m4, m5, m6, m7⟩ := hst.z
              dsimp only at m0 m1 m2 m3 m4 m5 m6 m7
              simp [results, Tryz.results149, go_sem, m0, m1, m2, m3, m4, m5, m6, m7]) rfl ?_
            rw [HI2.out]
            exact ⟨rfl, { P with R := R' }, HT6.out.box HM.out.er hcs (by have := HRB.out; omega) HNR.out⟩
           exact AllReadyH.nil
          exact AllReadyH.nil
         exact AllReadyH.nil
        exact AllReadyH.nil
       exact AllReadyH.nil
      exact AllReadyH.nil
     ·subst hdn
      have HI : Hid (ingM m ⟨k, se, sq, a, sp, vo⟩ = (qr, 0, m)) := hide (by
        have h1 := HQ.out
        unfold ingM
        dsimp only
        rw [h1]
        exact if_pos (.inr rfl))
      go_upto_region 3 with fail
      refine wp_region_held_drew (S := (fun U => U.cell? ⟨b6, 0, none⟩ = some (.int .i64 qr.er) ∧ U.cell? ⟨b6, 1, none⟩ = some (.int .i64 qr.rs) ∧ U.cell? ⟨b6, 2, none⟩ = some (.int .i64 qr.gn) ∧ U.cell? ⟨b6, 3, none⟩ = some (.int .i64 qr.ad) ∧ U.cell? ⟨b6, 4, none⟩ = some (.int .i64 qr.sa) ∧ U.cell? ⟨b6, 5, none⟩ = some (.int .i64 qr.ot) ∧ U.cell? ⟨b6, 6, none⟩ = some (.int .i64 qr.cy) ∧ U.cell? ⟨b6, 7, none⟩ = some (.int .i64 qr.fu))) (by kernel_rfl) ?_ (fun hHeld => ?_)
      ·(try dsimp only)
       exact (show RowR Y.drew b6 qr from HST.out).z
      refine tkI (i := 0) (oi := ⟨some 30, Op.load 66 (Operand.tmp 6), 66, _, _, none⟩) (v := (.agg #[.int .i64 qr.er, .int .i64 qr.rs, .int .i64 qr.gn, .int .i64 qr.ad, .int .i64 qr.sa, .int .i64 qr.ot, .int .i64 qr.cy, .int .i64 qr.fu])) rfl (by rfl) ?_ ?_
      ·intro w hSw
       (try dsimp only at hSw)
       go_simp
       try with_reducible rfl
      try simp only [Act.put, qA, qB, qC]
      refine tkI (i := 1) (oi := ⟨some 31, Op.move (Operand.tmp 8), 33, _, _, none⟩) (v := ?_) rfl (by rfl) ?_ ?_
      rotate_left
      ·intro w hSw
       (try dsimp only at hSw)
       go_simp
       try with_reducible rfl
      try simp only [Act.put, qA, qB, qC]
      refine wpAnyH_ready (rs := [2]) (by kernel_rfl) (by simp) ?_
      refine AllReadyH.cons (o := ⟨some 32, Op.call { callee := Callee.value (Operand.func 147), args := #[Operand.tmp 31], argTypes := #[33] }, 175, _, _, none⟩) rfl (fun K hK => ?_) ?_
      ·go_simp
       go_at_call 147
       refine (refused_any 0 _).mono ?_
       rintro e6 w6 ⟨rfl, hw6⟩
       have HW6 : Hid (Below Y.heap.size Y w6) := hide (hw6 ▸ bdrew Y 1)
       clear hw6
       obtain ⟨j0, j1, j2, j3, j4, j5, j6, j7⟩ := (HRY.out.below HW6.out).z
       obtain ⟨f0, f1, f2, f3, f4, f5, f6, f7⟩ := (HRY.out.below HW6.out).f
       first
        | refine hK.out _ _ ?_ (fun hHeld => ?_)
        | (go_wp2_with fail; refine hK.out _ _ ?_ (fun hHeld => ?_))
       ·(try dsimp only)
        exact (HST.out.below HW6.out).z
       clear hK K
       try simp only [Act.put, qA, qB, qC]
       refine wpAnyH_ready (rs := [3]) (by kernel_rfl) (by simp) ?_
       refine AllReadyH.cons (o := ⟨none, Op.store 66 (Operand.tmp 4) (Operand.tmp 30), 0, _, _, none⟩) rfl (fun K hK => ?_) ?_
       ·go_simp
        first
         | refine hK.out _ _ ?_ (fun hHeld => ?_)
         | (go_wp2_with fail; refine hK.out _ _ ?_ (fun hHeld => ?_))
        ·(try dsimp only)
         exact ((HST.out.below HW6.out).chg (setR_chg w6 r qr) (fun (e : b6 = r) => by have := HB6.out; have := HRX.out.lt; omega)).z
        clear hK K
        try simp only [Act.put, qA, qB, qC]
        refine tkI (i := 4) (oi := ⟨some 5, Op.assign (Operand.tmp 32), 175, _, _, none⟩) (v := ?_) rfl (by rfl) ?_ ?_
        rotate_left
        ·intro w hSw
         (try dsimp only at hSw)
         go_simp
         try with_reducible rfl
        try simp only [Act.put, qA, qB, qC]
        refine wpAnyH_done (by kernel_rfl) ?_ _
        go_wp2
        have hst := setR_row (HRY.out.below HW6.out) qr
        have hcs := setR_chg w6 r qr
        unfold setR at hst hcs
        refine bodyPost_ret (v := .tuple #[.agg #[.int .i64 qr.er, .int .i64 qr.rs, .int .i64 qr.gn, .int .i64 qr.ad, .int .i64 qr.sa, .int .i64 qr.ot, .int .i64 qr.cy, .int .i64 qr.fu], errV 0]) (by
          generalize World.setCell (World.setCell (World.setCell (World.setCell (World.setCell (World.setCell (World.setCell (World.setCell w6 ⟨r, 0, none⟩ (.int .i64 qr.er)) ⟨r, 1, none⟩ (.int .i64 qr.rs)) ⟨r, 2, none⟩ (.int .i64 qr.gn)) ⟨r, 3, none⟩ (.int .i64 qr.ad)) ⟨r, 4, none⟩ (.int .i64 qr.sa)) ⟨r, 5, none⟩ (.int .i64 qr.ot)) ⟨r, 6, none⟩ (.int .i64 qr.cy)) ⟨r, 7, none⟩ (.int .i64 qr.fu) = W9 at hst ⊢
          obtain ⟨m0, m1, m2, m3, m4, m5, m6, m7⟩ := hst.z
          simp [results, Tryz.results149, go_sem, m0, m1, m2, m3, m4, m5, m6, m7]) rfl ?_
        rw [HI.out]
        refine ⟨rfl, P, McTo.box HM.out.er ((HM.out.toB HWY.out).below HW6.out) hcs (by have := HRB.out; omega) (fun hk => by have := HRB.out.2.2 r hk; have := HRB.out; omega)⟩
       exact AllReadyH.nil
      exact AllReadyH.nil
    ·have h1 : (e0 == 0) = false := by simpa using h0
     have HI : Hid (ingM m ⟨k, se, sq, a, sp, vo⟩ = (qr, e0, m)) := hide (by
       have h1 := HQ.out
       unfold ingM
       dsimp only
       rw [h1]
       exact if_pos (.inl h0))
     go_upto_region 3 with fail
     refine wp_region_held_drew (S := (fun U => U.cell? ⟨b6, 0, none⟩ = some (.int .i64 qr.er) ∧ U.cell? ⟨b6, 1, none⟩ = some (.int .i64 qr.rs) ∧ U.cell? ⟨b6, 2, none⟩ = some (.int .i64 qr.gn) ∧ U.cell? ⟨b6, 3, none⟩ = some (.int .i64 qr.ad) ∧ U.cell? ⟨b6, 4, none⟩ = some (.int .i64 qr.sa) ∧ U.cell? ⟨b6, 5, none⟩ = some (.int .i64 qr.ot) ∧ U.cell? ⟨b6, 6, none⟩ = some (.int .i64 qr.cy) ∧ U.cell? ⟨b6, 7, none⟩ = some (.int .i64 qr.fu))) (by kernel_rfl) ?_ (fun hHeld => ?_)
     ·(try dsimp only)
      exact (show RowR Y.drew b6 qr from HST.out).z
     refine tkI (i := 0) (oi := ⟨some 30, Op.load 66 (Operand.tmp 6), 66, _, _, none⟩) (v := (.agg #[.int .i64 qr.er, .int .i64 qr.rs, .int .i64 qr.gn, .int .i64 qr.ad, .int .i64 qr.sa, .int .i64 qr.ot, .int .i64 qr.cy, .int .i64 qr.fu])) rfl (by rfl) ?_ ?_
     ·intro w hSw
      (try dsimp only at hSw)
      go_simp
      try with_reducible rfl
     try simp only [Act.put, qA, qB, qC]
     refine tkI (i := 1) (oi := ⟨some 31, Op.move (Operand.tmp 8), 33, _, _, none⟩) (v := ?_) rfl (by rfl) ?_ ?_
     rotate_left
     ·intro w hSw
      (try dsimp only at hSw)
      go_simp
      try with_reducible rfl
     try simp only [Act.put, qA, qB, qC]
     refine wpAnyH_ready (rs := [2]) (by kernel_rfl) (by simp) ?_
     refine AllReadyH.cons (o := ⟨some 32, Op.call { callee := Callee.value (Operand.func 147), args := #[Operand.tmp 31], argTypes := #[33] }, 175, _, _, none⟩) rfl (fun K hK => ?_) ?_
     ·go_simp
      go_at_call 147
      refine (refused_any e0 _).mono ?_
      rintro e6 w6 ⟨rfl, hw6⟩
      have HW6 : Hid (Below Y.heap.size Y w6) := hide (hw6 ▸ bdrew Y 1)
      clear hw6
      obtain ⟨j0, j1, j2, j3, j4, j5, j6, j7⟩ := (HRY.out.below HW6.out).z
      obtain ⟨f0, f1, f2, f3, f4, f5, f6, f7⟩ := (HRY.out.below HW6.out).f
      first
       | refine hK.out _ _ ?_ (fun hHeld => ?_)
       | (go_wp2_with fail; refine hK.out _ _ ?_ (fun hHeld => ?_))
      ·(try dsimp only)
       exact (HST.out.below HW6.out).z
      clear hK K
      try simp only [Act.put, qA, qB, qC]
      refine wpAnyH_ready (rs := [3]) (by kernel_rfl) (by simp) ?_
      refine AllReadyH.cons (o := ⟨none, Op.store 66 (Operand.tmp 4) (Operand.tmp 30), 0, _, _, none⟩) rfl (fun K hK => ?_) ?_
      ·go_simp
       first
        | refine hK.out _ _ ?_ (fun hHeld => ?_)
        | (go_wp2_with fail; refine hK.out _ _ ?_ (fun hHeld => ?_))
       ·(try dsimp only)
        exact ((HST.out.below HW6.out).chg (setR_chg w6 r qr) (fun (e : b6 = r) => by have := HB6.out; have := HRX.out.lt; omega)).z
       clear hK K
       try simp only [Act.put, qA, qB, qC]
       refine tkI (i := 4) (oi := ⟨some 5, Op.assign (Operand.tmp 32), 175, _, _, none⟩) (v := ?_) rfl (by rfl) ?_ ?_
       rotate_left
       ·intro w hSw
        (try dsimp only at hSw)
        go_simp
        try with_reducible rfl
       try simp only [Act.put, qA, qB, qC]
       refine wpAnyH_done (by kernel_rfl) ?_ _
       go_wp2
       have hst := setR_row (HRY.out.below HW6.out) qr
       have hcs := setR_chg w6 r qr
       unfold setR at hst hcs
       refine bodyPost_ret (v := .tuple #[.agg #[.int .i64 qr.er, .int .i64 qr.rs, .int .i64 qr.gn, .int .i64 qr.ad, .int .i64 qr.sa, .int .i64 qr.ot, .int .i64 qr.cy, .int .i64 qr.fu], errV e0]) (by
         generalize World.setCell (World.setCell (World.setCell (World.setCell (World.setCell (World.setCell (World.setCell (World.setCell w6 ⟨r, 0, none⟩ (.int .i64 qr.er)) ⟨r, 1, none⟩ (.int .i64 qr.rs)) ⟨r, 2, none⟩ (.int .i64 qr.gn)) ⟨r, 3, none⟩ (.int .i64 qr.ad)) ⟨r, 4, none⟩ (.int .i64 qr.sa)) ⟨r, 5, none⟩ (.int .i64 qr.ot)) ⟨r, 6, none⟩ (.int .i64 qr.cy)) ⟨r, 7, none⟩ (.int .i64 qr.fu) = W9 at hst ⊢
         obtain ⟨m0, m1, m2, m3, m4, m5, m6, m7⟩ := hst.z
         simp [results, Tryz.results149, go_sem, m0, m1, m2, m3, m4, m5, m6, m7]) rfl ?_
       rw [HI.out]
       refine ⟨rfl, P, McTo.box HM.out.er ((HM.out.toB HWY.out).below HW6.out) hcs (by have := HRB.out; omega) (fun hk => by have := HRB.out.2.2 r hk; have := HRB.out; omega)⟩
      exact AllReadyH.nil
     exact AllReadyH.nil
   exact AllReadyH.nil
  exact AllReadyH.nil
 exact AllReadyH.nil
end Go.Proofs.YtionbmlicmibgaaGreatDoor
