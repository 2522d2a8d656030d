import Derived.Test.YtionbmlicmibgaaGreatDoorMcCmd
set_option linter.unusedVariables false
set_option linter.unusedSimpArgs false
namespace Go.Proofs.YtionbmlicmibgaaGreatDoor
open Go.Proofs.Tryz
open Go.RowKit
def dW (w : World) (b : Nat) (v0 v1 v2 v3 v4 : Value) : Prop := w.heap[b]? = some (.cells #[v0, v1, v2, v3, v4] 64 (0, 0))
section
variable {w w' : World} {b : Nat} {v0 v1 v2 v3 v4 : Value}
theorem dW.z (h : dW w b v0 v1 v2 v3 v4) : w.cell? ⟨b, 0, none⟩ = some v0 ∧ w.cell? ⟨b, 1, none⟩ = some v1 ∧ w.cell? ⟨b, 2, none⟩ = some v2 ∧ w.cell? ⟨b, 3, none⟩ = some v3 ∧ w.cell? ⟨b, 4, none⟩ = some v4 := ⟨acC w b 0 _ 64 (0, 0) h, acC w b 1 _ 64 (0, 0) h, acC w b 2 _ 64 (0, 0) h, acC w b 3 _ 64 (0, 0) h, acC w b 4 _ 64 (0, 0) h⟩
theorem dW.f (h : dW w b v0 v1 v2 v3 v4) : w.frozen? ⟨b, 0, none⟩ = false ∧ w.frozen? ⟨b, 1, none⟩ = false ∧ w.frozen? ⟨b, 2, none⟩ = false ∧ w.frozen? ⟨b, 3, none⟩ = false ∧ w.frozen? ⟨b, 4, none⟩ = false := ⟨acI w b 0 _ 64 h, acI w b 1 _ 64 h, acI w b 2 _ 64 h, acI w b 3 _ 64 h, acI w b 4 _ 64 h⟩
theorem dW.lt (h : dW w b v0 v1 v2 v3 v4) : b < w.heap.size := lt_of_cell h.z.1
theorem dW.aU {S : Nat → Prop} (h : dW w b v0 v1 v2 v3 v4) (hc : ak w w' S) (aN : ¬ S b) : dW w' b v0 v1 v2 v3 v4 := (hc.block b h.lt aN).trans h
theorem dW.s0 (h : dW w b v0 v1 v2 v3 v4) (x : Value) : dW (w.setCell ⟨b, 0, none⟩ x) b x v1 v2 v3 v4 := by unfold dW at *; rw [acK w b 0 _ 64 _ h]; rfl
theorem dW.s1 (h : dW w b v0 v1 v2 v3 v4) (x : Value) : dW (w.setCell ⟨b, 1, none⟩ x) b v0 x v2 v3 v4 := by unfold dW at *; rw [acK w b 1 _ 64 _ h]; rfl
theorem dW.s2 (h : dW w b v0 v1 v2 v3 v4) (x : Value) : dW (w.setCell ⟨b, 2, none⟩ x) b v0 v1 x v3 v4 := by unfold dW at *; rw [acK w b 2 _ 64 _ h]; rfl
theorem dW.s3 (h : dW w b v0 v1 v2 v3 v4) (x : Value) : dW (w.setCell ⟨b, 3, none⟩ x) b v0 v1 v2 x v4 := by unfold dW at *; rw [acK w b 3 _ 64 _ h]; rfl
theorem dW.s4 (h : dW w b v0 v1 v2 v3 v4) (x : Value) : dW (w.setCell ⟨b, 4, none⟩ x) b v0 v1 v2 v3 x := by unfold dW at *; rw [acK w b 4 _ 64 _ h]; rfl
end
theorem dW.new (w : World) (v0 v1 v2 v3 v4 : Value) : dW (w.alloc (.cells #[v0, v1, v2, v3, v4] 64)) w.heap.size v0 v1 v2 v3 v4 := acQ _ _
theorem Wu (w : World) (b : Nat) (v0 v1 v2 v3 v4 : Value) : ak w (((((w.setCell ⟨b, 0, none⟩ v0).setCell ⟨b, 1, none⟩ v1).setCell ⟨b, 2, none⟩ v2).setCell ⟨b, 3, none⟩ v3).setCell ⟨b, 4, none⟩ v4) fun k => k = b := eG (eG (eG (eG (aC _ _ _ _) (aC _ _ _ _)) (aC _ _ _ _)) (aC _ _ _ _)) (aC _ _ _ _)
set_option maxRecDepth 200000 in
set_option maxHeartbeats 40000000 in
theorem AX {w : World} {P : Pm} {m : Mp} (h : dc w P m) {k se sq a : Int} {p : Option Addr} {n d : Nat} {q : Option Addr} {mq f : Nat} {sp : List Sp} (hv : iY w (.slice p n d) sp) (yV : sp.length ≤ 100000) (im : ∀ x ∈ sp, x.n.size ≤ 1100000) (h1 : 1 ≤ se ∧ se ≤ 1099511627776) (h2 : 1 ≤ sq ∧ sq ≤ 1099511627776) {vo : List Int} : Calls prog 149 #[.pointer (some ⟨P.gi, 0, none⟩), .agg #[.int .i64 k, .int .i64 se, .int .i64 sq, .int .i64 a, .slice p n d, .slice q mq f]] w (yN w P (qe m ⟨k, se, sq, a, sp, vo⟩)) := by
 have hA := (acG w.heap.size w).alloc (acE _) (.cells #[.int .i64 k, .int .i64 se, .int .i64 sq, .int .i64 a, .slice p n d, .slice q mq f] 25);have hB := hA.alloc (o := .cells #[.int .i64 0, .int .i64 0, .int .i64 0, .int .i64 0, .int .i64 0, .int .i64 0, .int .i64 0, .int .i64 0] 66) (by simp);have hb := (bk.new (k := k) (se := se) (sq := sq) (a := a) (vs := .slice p n d) (vv := .slice q mq f) w).below ((acG _ _).alloc (acE _) (.cells #[.int .i64 0, .int .i64 0, .int .i64 0, .int .i64 0, .int .i64 0, .int .i64 0, .int .i64 0, .int .i64 0] 66));have hr := di.new (w.alloc (.cells #[.int .i64 k, .int .i64 se, .int .i64 sq, .int .i64 a, .slice p n d, .slice q mq f] 25)) iG;have GL : (w.alloc (.cells #[.int .i64 k, .int .i64 se, .int .i64 sq, .int .i64 a, .slice p n d, .slice q mq f] 25)).heap.size = w.heap.size + 1 := by simp
 rw [GL] at hr;have HM := af h;have HV := af (acD hv (acD yV im));obtain ⟨qr, dn, e0, hq⟩ : ∃ qr dn e0, gy m.L se sq = (qr, dn, e0) := ⟨_, _, _, rfl⟩
 have HQ := af hq;have H12 := af (acD h1 h2);go_enter func149, ntmps149
 go_upto_region 1 with fail
 obtain ⟨X, hX⟩ : ∃ X, (w.alloc (.cells #[.int .i64 k, .int .i64 se, .int .i64 sq, .int .i64 a, .slice p n d, .slice q mq f] 25)).alloc (.cells #[.int .i64 0, .int .i64 0, .int .i64 0, .int .i64 0, .int .i64 0, .int .i64 0, .int .i64 0, .int .i64 0] 66) = X := ⟨_, rfl⟩
 have yF : di X (w.heap.size + 1) iG := by rw [← hX]; exact hr
 have lM : bk X w.heap.size k se sq a (.slice p n d) (.slice q mq f) := by rw [← hX]; exact hb
 have GM : Below w.heap.size w X := by rw [← hX]; exact hB
 obtain ⟨b, eS⟩ : ∃ b, w.heap.size = b := ⟨_, rfl⟩
 obtain ⟨r, cT⟩ : ∃ r, b + 1 = r := ⟨_, rfl⟩
 rw [hX, eS, cT];rw [eS] at yF lM;rw [cT] at yF;have HX := af GM;have jE := af (h.below GM);have dH := af lM;have mR := af yF;have b_ : Hid (w.heap.size = b ∧ b + 1 = r ∧ (∀ k, kU P k → k < b)) := af ⟨eS, cT, fun k hk => by have := h.lt k hk; omega⟩;have eJ : Hid (∀ U, Below X.heap.size X U → U.cell? ⟨P.gi, 1, none⟩ = some (.pointer (some ⟨P.gt, 0, none⟩)) ∧ U.cell? ⟨b, 1, none⟩ = some (.int .i64 se) ∧ U.cell? ⟨b, 2, none⟩ = some (.int .i64 sq)) := af fun U hU => ⟨(jE.out.below hU).row.c1, (dH.out.below hU).box.2.1, (dH.out.below hU).box.2.2.1⟩
 have Hk : Hid (∀ U, Below X.heap.size X U → Calls prog 180 #[.pointer (some ⟨P.gt, 0, none⟩), .int .i64 se, .int .i64 sq] U fun e w' => e = .returned (.tuple #[wY qr, .bool dn, .int .i64 e0]) ∧ Below U.heap.size U w') := af fun U hU => by
  have hh := rl (jE.out.below hU).tb (n := se) (m := sq) (ad5 (by omega)) (by omega) (by omega);unfold FO at hh;rw [hq] at hh;exact hh
 clear h hA hB hb hr GL yF lM GM hX eS cT hv yV im h1 h2 hq;have KR : Hid (Below X.heap.size X (X.alloc (.cells #[.int .i64 0, .int .i64 0, .int .i64 0, .int .i64 0, .int .i64 0, .int .i64 0, .int .i64 0, .int .i64 0] 66))) := af ((acG _ _).alloc (acE _) _);refine ado (S := (fun U => U.cell? ⟨P.gi, 1, none⟩ = some (.pointer (some ⟨P.gt, 0, none⟩)) ∧ U.cell? ⟨b, 1, none⟩ = some (.int .i64 se) ∧ U.cell? ⟨b, 2, none⟩ = some (.int .i64 sq))) (by kernel_rfl) ?_ (fun hHeld => ?_)
 ·(try dsimp only)
  exact eJ.out _ (ag X 1)
 refine ao 0 rfl ?_;refine ao 1 rfl ?_;refine ao 2 rfl ?_;refine ao 3 rfl ?_;refine ao 4 rfl ?_;refine ao 5 rfl ?_;refine ao 6 rfl ?_;refine ao 7 rfl ?_;refine acU (rs := [8, 13]) (by kernel_rfl) (by simp) ?_;refine dz rfl (fun K hK => ?_) ?_
 focus
  go_simp;go_at_call 180
  refine (Hk.out _ (ag X 1)).mono ?_;rintro e5 w5 ⟨rfl, aL⟩;unfold wY;have cH : Hid (Below X.heap.size X w5) := af ((ag X 1).trans aL);have oL : Hid (Below X.heap.size X (w5.alloc (.cells #[.int .i64 0, .int .i64 0, .int .i64 0, .int .i64 0, .int .i64 0, .int .i64 0, .int .i64 0, .int .i64 0] 66))) := af (cH.out.alloc cH.out.size _);first
   | refine hK.out _ _ ?_ (fun hHeld => ?_)
   | (go_wp2_with fail; refine hK.out _ _ ?_ (fun hHeld => ?_))
  ·(try dsimp only)
   exact eJ.out _ cH.out
  clear hK K;try simp only [Act.put, qA, qB, qC]
  refine ao 9 rfl ?_;refine ao 10 rfl ?_;refine ao 11 rfl ?_;refine ao 12 rfl ?_;refine acU (rs := [13]) (by kernel_rfl) (by simp) ?_;refine dz rfl (fun K hK => ?_) ?_
  focus
   go_simp;first
    | refine hK.out _ _ ?_ (fun hHeld => ?_)
    | (go_wp2_with fail; refine hK.out _ _ ?_ (fun hHeld => ?_))
   ·(try dsimp only)
    exact eJ.out _ oL.out
   clear hK K;try simp only [Act.put, qA, qB, qC]
   refine acU (rs := [14]) (by kernel_rfl) (by simp) ?_;refine dz rfl (fun K hK => ?_) ?_
   focus
    go_simp;first
     | refine hK.out _ _ ?_ (fun hHeld => ?_)
     | (go_wp2_with fail; refine hK.out _ _ ?_ (fun hHeld => ?_))
    ·(try dsimp only)
     exact eJ.out _ (cH.out.alloc cH.out.size _)
    clear hK K;try simp only [Act.put, qA, qB, qC]
    refine ao 15 rfl ?_;refine ao 16 rfl ?_;refine adO (by kernel_rfl) ?_ _;have hst := di.new w5 qr;have sD : Below X.heap.size X (w5.alloc (.cells #[.int .i64 qr.er, .int .i64 qr.rs, .int .i64 qr.gn, .int .i64 qr.ad, .int .i64 qr.sa, .int .i64 qr.ot, .int .i64 qr.cy, .int .i64 qr.fu] 66)) := cH.out.alloc cH.out.size _;generalize w5.alloc (.cells #[.int .i64 qr.er, .int .i64 qr.rs, .int .i64 qr.gn, .int .i64 qr.ad, .int .i64 qr.sa, .int .i64 qr.ot, .int .i64 qr.cy, .int .i64 qr.fu] 66) = Y at hst sD ⊢;obtain ⟨b6, bK⟩ : ∃ b, w5.heap.size = b := ⟨_, rfl⟩
    rw [bK] at hst ⊢;clear oL;have oL : Hid (X.heap.size ≤ b6) := af (by rw [← bK]; exact cH.out.size);clear bK
   rotate_left;exact acR
  rotate_left;exact acR
 rotate_left;refine dz rfl (fun K hK => ?_) ?_
 focus
  go_simp;first
   | refine hK.out _ _ ?_ (fun hHeld => ?_)
   | (go_wp2_with fail; refine hK.out _ _ ?_ (fun hHeld => ?_))
  ·(try dsimp only)
   exact eJ.out _ KR.out.drew
  clear hK K;try simp only [Act.put, qA, qB, qC]
  refine acU (rs := [8]) (by kernel_rfl) (by simp) ?_;refine dz rfl (fun K hK => ?_) ?_
  focus
   go_simp;go_at_call 180
   refine (Hk.out _ KR.out.drew).mono ?_;rintro e5 w5 ⟨rfl, aL⟩;unfold wY;have lX := (show di (X.alloc (.cells #[.int .i64 0, .int .i64 0, .int .i64 0, .int .i64 0, .int .i64 0, .int .i64 0, .int .i64 0, .int .i64 0] 66)).drew X.heap.size iG from di.new X iG).below aL;have cH : Hid (Below X.heap.size X w5) := af (KR.out.drew.trans (aL.mono KR.out.drew.size));obtain ⟨j0, j1, j2, j3, j4, j5, j6, j7⟩ := lX.z;obtain ⟨f0, f1, f2, f3, f4, f5, f6, f7⟩ := lX.f;first
    | refine hK.out _ _ ?_ (fun hHeld => ?_)
    | (go_wp2_with fail; refine hK.out _ _ ?_ (fun hHeld => ?_))
   ·(try dsimp only)
    exact eJ.out _ cH.out
   clear hK K;try simp only [Act.put, qA, qB, qC]
   refine ao 9 rfl ?_;refine ao 10 rfl ?_;refine ao 11 rfl ?_;refine ao 12 rfl ?_;refine acU (rs := [14]) (by kernel_rfl) (by simp) ?_;refine dz rfl (fun K hK => ?_) ?_
   focus
    go_simp;first
     | refine hK.out _ _ ?_ (fun hHeld => ?_)
     | (go_wp2_with fail; refine hK.out _ _ ?_ (fun hHeld => ?_))
    ·(try dsimp only)
     obtain ⟨k1, k2, k3⟩ := eJ.out _ cH.out;have e1 := Nat.ne_of_lt (jE.out.lt P.gi (.inl rfl));have e2 := Nat.ne_of_lt dH.out.lt;exact ⟨oX k1 e1 _ _ _ _ _ _ _ _, oX k2 e2 _ _ _ _ _ _ _ _, oX k3 e2 _ _ _ _ _ _ _ _⟩
    clear hK K;try simp only [Act.put, qA, qB, qC]
    refine ao 15 rfl ?_;refine ao 16 rfl ?_;refine adO (by kernel_rfl) ?_ _;have hst := cV lX qr;have hcs := bT w5 X.heap.size qr;unfold kV at hst hcs;have sD : Below X.heap.size X (World.setCell (World.setCell (World.setCell (World.setCell (World.setCell (World.setCell (World.setCell (World.setCell w5 ⟨X.heap.size, 0, none⟩ (.int .i64 qr.er)) ⟨X.heap.size, 1, none⟩ (.int .i64 qr.rs)) ⟨X.heap.size, 2, none⟩ (.int .i64 qr.gn)) ⟨X.heap.size, 3, none⟩ (.int .i64 qr.ad)) ⟨X.heap.size, 4, none⟩ (.int .i64 qr.sa)) ⟨X.heap.size, 5, none⟩ (.int .i64 qr.ot)) ⟨X.heap.size, 6, none⟩ (.int .i64 qr.cy)) ⟨X.heap.size, 7, none⟩ (.int .i64 qr.fu)) := ak.aZ cH.out hcs (fun k (e : k = X.heap.size) => Nat.le_of_eq e.symm);generalize World.setCell (World.setCell (World.setCell (World.setCell (World.setCell (World.setCell (World.setCell (World.setCell w5 ⟨X.heap.size, 0, none⟩ (.int .i64 qr.er)) ⟨X.heap.size, 1, none⟩ (.int .i64 qr.rs)) ⟨X.heap.size, 2, none⟩ (.int .i64 qr.gn)) ⟨X.heap.size, 3, none⟩ (.int .i64 qr.ad)) ⟨X.heap.size, 4, none⟩ (.int .i64 qr.sa)) ⟨X.heap.size, 5, none⟩ (.int .i64 qr.ot)) ⟨X.heap.size, 6, none⟩ (.int .i64 qr.cy)) ⟨X.heap.size, 7, none⟩ (.int .i64 qr.fu) = Y at hst hcs sD ⊢;obtain ⟨b6, bK⟩ : ∃ b, X.heap.size = b := ⟨_, rfl⟩
    rw [bK] at hst ⊢;have oL : Hid (X.heap.size ≤ b6) := af (Nat.le_of_eq bK);clear lX j0 j1 j2 j3 j4 j5 j6 j7 f0 f1 f2 f3 f4 f5 f6 f7 bK hcs
   rotate_left;exact acR
  rotate_left;exact acR
 rotate_left;exact acR;all_goals
  have oO := af (mR.out.below sD);have vY := af (jE.out.below sD);have eI := af (dH.out.below sD);have eH := af hst;have Og := af (HX.out.trans (sD.mono HX.out.size));clear hst sD hHeld Hk eJ KR;by_cases h0 : e0 = 0
  ·subst h0;cases U9 : dn
   ·subst U9;have HI : Hid (qe m ⟨k, se, sq, a, sp, vo⟩ = (Dd (nF m.S sp), (f_ m.L se sq m.ix (Dd (nF m.S sp))).1, { m with S := iH m.S sp, L := (f_ m.L se sq m.ix (Dd (nF m.S sp))).2 })) := af (by
      have h1 := HQ.out;unfold qe;dsimp only;rw [h1];exact acO (fun e => by rcases e with e | e <;> simp at e))
    obtain ⟨C, hC⟩ : ∃ C, nF m.S sp = C := ⟨_, rfl⟩
    obtain ⟨S1, U_⟩ : ∃ S, iH m.S sp = S := ⟨_, rfl⟩
    rw [hC, U_] at HI;have AV : Hid (∀ U, Below Y.heap.size Y U → Calls prog 181 #[.pointer (some ⟨P.gs, 0, none⟩), .slice p n d] U (fun e w' => e = .returned (.tuple #[iJ C, .int .i64 (Eg sp)]) ∧ ∃ R', gC U w' P.gs P.bm P.R R' S1)) := af fun U hU => by
      have hh := rm (vY.out.below hU).so (HV.out.1.below (Og.out.trans (hU.mono Og.out.size))) HV.out.2.1 HV.out.2.2;unfold FP at hh;rw [HM.out.pl, hC, U_] at hh;exact hh
    have HKY : Hid (∀ U, Below Y.heap.size Y U → U.cell? ⟨P.gi, 0, none⟩ = some (.pointer (some ⟨P.gs, 0, none⟩)) ∧ U.cell? ⟨b, 4, none⟩ = some (.slice p n d)) := af fun U hU => ⟨(vY.out.below hU).row.c0, (eI.out.below hU).box.2.2.2.2.1⟩
    have lK : Hid (Below Y.heap.size Y (Y.alloc (.cells #[.int .i64 0, .int .i64 0, .int .i64 0, .int .i64 0, .int .i64 0] 64))) := af ((acG _ _).alloc (acE _) _);clear hC U_;go_upto_region 4 with fail
    refine ado (S := (fun U => U.cell? ⟨P.gi, 0, none⟩ = some (.pointer (some ⟨P.gs, 0, none⟩)) ∧ U.cell? ⟨b, 4, none⟩ = some (.slice p n d))) (by kernel_rfl) ?_ (fun hHeld => ?_)
    ·(try dsimp only)
     exact HKY.out _ (ag Y 1)
    refine ao 0 rfl ?_;refine ao 1 rfl ?_;refine ao 2 rfl ?_;refine ao 3 rfl ?_;refine ao 4 rfl ?_;refine ao 5 rfl ?_;refine acU (rs := [6, 10]) (by kernel_rfl) (by simp) ?_;refine dz rfl (fun K hK => ?_) ?_
    focus
     go_simp;go_at_call 181
     refine (AV.out _ (show Below Y.heap.size Y Y.drew from ag Y 1)).mono ?_;rintro e5 w5 ⟨rfl, R', rf⟩;unfold iJ;have HT5 : Hid (fV w w5 P { P with R := R' } { m with S := S1 }) := af ((((vY.out.below (show Below Y.heap.size Y Y.drew from ag Y 1)).U3 rf)).from (Og.out.trans ((show Below Y.heap.size Y Y.drew from ag Y 1).mono Og.out.size)));have HC5 : Hid (ak _ w5 (vm P.bm P.R)) := af rf.aU;have Va := af ((oO.out.below (show Below Y.heap.size Y Y.drew from ag Y 1)).aU rf.aU ((vY.out.below (show Below Y.heap.size Y Y.drew from ag Y 1)).so.dD (oO.out.below (show Below Y.heap.size Y Y.drew from ag Y 1)).z.1));have KS := af ((eI.out.below (show Below Y.heap.size Y Y.drew from ag Y 1)).aU rf.aU ((vY.out.below (show Below Y.heap.size Y Y.drew from ag Y 1)).so.dD (eI.out.below (show Below Y.heap.size Y Y.drew from ag Y 1)).box.1));have Ap : Hid (Y.heap.size ≤ w5.heap.size) := af (acN (show Below Y.heap.size Y Y.drew from ag Y 1).size rf.aU.size);have Qq : Hid (¬ kU { P with R := R' } r) := af (fun hk => by
       rcases ((vY.out.below (show Below Y.heap.size Y Y.drew from ag Y 1)).U3 rf).new _ hk with e | e
       ·have := b_.out.2.2 r e; have := b_.out.2.1; omega
       ·exact absurd (acV oO.out.lt (acN (show Below Y.heap.size Y Y.drew from ag Y 1).size e)) (aez _))
     have Oh : Hid (w5.cell? ⟨P.gi, 0, none⟩ = some (.pointer (some ⟨P.gs, 0, none⟩)) ∧ w5.cell? ⟨b, 4, none⟩ = some (.slice p n d)) := af ⟨(vY.out.below (show Below Y.heap.size Y Y.drew from ag Y 1)).so.keep rf.aU (vY.out.below (show Below Y.heap.size Y Y.drew from ag Y 1)).row.c0, KS.out.box.2.2.2.2.1⟩;clear rf;first
      | refine hK.out _ _ ?_ (fun hHeld => ?_)
      | (go_wp2_with fail; refine hK.out _ _ ?_ (fun hHeld => ?_))
     ·(try dsimp only)
      exact Oh.out
     clear hK K;try simp only [Act.put, qA, qB, qC]
     refine ao 7 rfl ?_;refine ao 8 rfl ?_;refine ao 9 rfl ?_;refine acU (rs := [10]) (by kernel_rfl) (by simp) ?_;refine dz rfl (fun K hK => ?_) ?_
     focus
      go_simp;first
       | refine hK.out _ _ ?_ (fun hHeld => ?_)
       | (go_wp2_with fail; refine hK.out _ _ ?_ (fun hHeld => ?_))
      ·(try dsimp only)
       exact ⟨(ak.of_below ((acG w5.heap.size w5).alloc (acE _) _) (fun _ => False)).cell Oh.out.1 (fun e => e), (ak.of_below ((acG w5.heap.size w5).alloc (acE _) _) (fun _ => False)).cell Oh.out.2 (fun e => e)⟩
      clear hK K;try simp only [Act.put, qA, qB, qC]
      refine acU (rs := [11]) (by kernel_rfl) (by simp) ?_;refine dz rfl (fun K hK => ?_) ?_
      focus
       go_simp;first
        | refine hK.out _ _ ?_ (fun hHeld => ?_)
        | (go_wp2_with fail; refine hK.out _ _ ?_ (fun hHeld => ?_))
       ·(try dsimp only)
        exact ⟨(ak.of_below ((acG w5.heap.size w5).alloc (acE _) _) (fun _ => False)).cell Oh.out.1 (fun e => e), (ak.of_below ((acG w5.heap.size w5).alloc (acE _) _) (fun _ => False)).cell Oh.out.2 (fun e => e)⟩
       clear hK K;try simp only [Act.put, qA, qB, qC]
       refine ao 12 rfl ?_;refine adO (by kernel_rfl) ?_ _;have hst := dW.new w5 (.int .i64 (C.add : Nat)) (.int .i64 (C.same : Nat)) (.int .i64 (C.other : Nat)) (.int .i64 (C.dw : Nat)) (.int .i64 (C.full : Nat));have xu : Below w5.heap.size w5 (w5.alloc (.cells #[.int .i64 (C.add : Nat), .int .i64 (C.same : Nat), .int .i64 (C.other : Nat), .int .i64 (C.dw : Nat), .int .i64 (C.full : Nat)] 64)) := (acG w5.heap.size w5).alloc (acE _) _;have Wv := HT5.out.below xu;have Ww := Va.out.below xu;have vu := KS.out.below xu;generalize w5.alloc (.cells #[.int .i64 (C.add : Nat), .int .i64 (C.same : Nat), .int .i64 (C.other : Nat), .int .i64 (C.dw : Nat), .int .i64 (C.full : Nat)] 64) = Z at hst Wv Ww vu xu ⊢;obtain ⟨b9, eW⟩ : ∃ b, w5.heap.size = b := ⟨_, rfl⟩
       rw [eW] at hst ⊢;clear eW xu
      rotate_left;exact acR
     rotate_left;exact acR
    rotate_left;refine dz rfl (fun K hK => ?_) ?_
    focus
     go_simp;first
      | refine hK.out _ _ ?_ (fun hHeld => ?_)
      | (go_wp2_with fail; refine hK.out _ _ ?_ (fun hHeld => ?_))
     ·(try dsimp only)
      exact HKY.out _ lK.out.drew
     clear hK K;try simp only [Act.put, qA, qB, qC]
     refine acU (rs := [6]) (by kernel_rfl) (by simp) ?_;refine dz rfl (fun K hK => ?_) ?_
     focus
      go_simp;go_at_call 181
      refine (AV.out _ lK.out.drew).mono ?_;rintro e5 w5 ⟨rfl, R', rf⟩;unfold iJ;have HT5 : Hid (fV w w5 P { P with R := R' } { m with S := S1 }) := af ((((vY.out.below lK.out.drew).U3 rf)).from (Og.out.trans (lK.out.drew.mono Og.out.size)));have HC5 : Hid (ak _ w5 (vm P.bm P.R)) := af rf.aU;have Va := af ((oO.out.below lK.out.drew).aU rf.aU ((vY.out.below lK.out.drew).so.dD (oO.out.below lK.out.drew).z.1));have KS := af ((eI.out.below lK.out.drew).aU rf.aU ((vY.out.below lK.out.drew).so.dD (eI.out.below lK.out.drew).box.1));have Ap : Hid (Y.heap.size ≤ w5.heap.size) := af (acN lK.out.drew.size rf.aU.size);have Qq : Hid (¬ kU { P with R := R' } r) := af (fun hk => by
        rcases ((vY.out.below lK.out.drew).U3 rf).new _ hk with e | e
        ·have := b_.out.2.2 r e; have := b_.out.2.1; omega
        ·exact absurd (acV oO.out.lt (acN lK.out.drew.size e)) (aez _))
      have Oh : Hid (w5.cell? ⟨P.gi, 0, none⟩ = some (.pointer (some ⟨P.gs, 0, none⟩)) ∧ w5.cell? ⟨b, 4, none⟩ = some (.slice p n d)) := af ⟨(vY.out.below lK.out.drew).so.keep rf.aU (vY.out.below lK.out.drew).row.c0, KS.out.box.2.2.2.2.1⟩;have Sx := ((show dW (Y.alloc (.cells #[.int .i64 0, .int .i64 0, .int .i64 0, .int .i64 0, .int .i64 0] 64)).drew Y.heap.size (.int .i64 0) (.int .i64 0) (.int .i64 0) (.int .i64 0) (.int .i64 0) from dW.new Y _ _ _ _ _)).aU rf.aU ((vY.out.below lK.out.drew).so.dD (show dW (Y.alloc (.cells #[.int .i64 0, .int .i64 0, .int .i64 0, .int .i64 0, .int .i64 0] 64)).drew Y.heap.size (.int .i64 0) (.int .i64 0) (.int .i64 0) (.int .i64 0) (.int .i64 0) from dW.new Y _ _ _ _ _).z.1);have Wx : Hid (¬ kU { P with R := R' } Y.heap.size) := af (fun hk => by
        rcases ((vY.out.below lK.out.drew).U3 rf).new _ hk with e | e
        ·exact absurd (vY.out.lt _ e) (aez _)
        ·have e1 : Y.heap.size + 1 ≤ Y.heap.size := by simpa using e
         omega)
      clear rf;obtain ⟨j0, j1, j2, j3, j4⟩ := Sx.z;obtain ⟨f0, f1, f2, f3, f4⟩ := Sx.f;first
       | refine hK.out _ _ ?_ (fun hHeld => ?_)
       | (go_wp2_with fail; refine hK.out _ _ ?_ (fun hHeld => ?_))
      ·(try dsimp only)
       exact Oh.out
      clear hK K;try simp only [Act.put, qA, qB, qC]
      refine ao 7 rfl ?_;refine ao 8 rfl ?_;refine ao 9 rfl ?_;refine acU (rs := [11]) (by kernel_rfl) (by simp) ?_;refine dz rfl (fun K hK => ?_) ?_
      focus
       go_simp;first
        | refine hK.out _ _ ?_ (fun hHeld => ?_)
        | (go_wp2_with fail; refine hK.out _ _ ?_ (fun hHeld => ?_))
       ·(try dsimp only)
        have h1 := Wu w5 Y.heap.size (.int .i64 (C.add : Nat)) (.int .i64 (C.same : Nat)) (.int .i64 (C.other : Nat)) (.int .i64 (C.dw : Nat)) (.int .i64 (C.full : Nat));exact ⟨h1.cell Oh.out.1 (Nat.ne_of_lt (vY.out.lt P.gi (.inl rfl))), h1.cell Oh.out.2 (Nat.ne_of_lt eI.out.lt)⟩
       clear hK K;try simp only [Act.put, qA, qB, qC]
       refine ao 12 rfl ?_;refine adO (by kernel_rfl) ?_ _;have hst := ((((Sx.s0 (.int .i64 (C.add : Nat))).s1 (.int .i64 (C.same : Nat))).s2 (.int .i64 (C.other : Nat))).s3 (.int .i64 (C.dw : Nat))).s4 (.int .i64 (C.full : Nat));have hcs := Wu w5 Y.heap.size (.int .i64 (C.add : Nat)) (.int .i64 (C.same : Nat)) (.int .i64 (C.other : Nat)) (.int .i64 (C.dw : Nat)) (.int .i64 (C.full : Nat));have Wv := HT5.out.box HM.out.er hcs Og.out.size Wx.out;have Ww := Va.out.aU hcs (Nat.ne_of_lt oO.out.lt);have vu := KS.out.aU hcs (Nat.ne_of_lt eI.out.lt);generalize World.setCell (World.setCell (World.setCell (World.setCell (World.setCell w5 ⟨Y.heap.size, 0, none⟩ (.int .i64 (C.add : Nat))) ⟨Y.heap.size, 1, none⟩ (.int .i64 (C.same : Nat))) ⟨Y.heap.size, 2, none⟩ (.int .i64 (C.other : Nat))) ⟨Y.heap.size, 3, none⟩ (.int .i64 (C.dw : Nat))) ⟨Y.heap.size, 4, none⟩ (.int .i64 (C.full : Nat)) = Z at hst Wv Ww vu ⊢;obtain ⟨b9, eW⟩ : ∃ b, Y.heap.size = b := ⟨_, rfl⟩
       rw [eW] at hst ⊢;clear Sx j0 j1 j2 j3 j4 f0 f1 f2 f3 f4 hcs eW
      rotate_left;exact acR
     rotate_left;exact acR
    rotate_left;exact acR;all_goals
     obtain ⟨z0, z1, z2, z3, z4⟩ := hst.z;have HTZ := af Wv;have Nw := af Ww;have Sy := af vu;clear hst Wv Ww vu HKY AV lK hHeld;go_upto_region 6 with fail
     have Zz : di (Z.alloc (.cells #[.int .i64 0, .int .i64 0, .int .i64 0, .int .i64 (C.add : Nat), .int .i64 (C.same : Nat), .int .i64 (C.other : Nat), .int .i64 (C.dw : Nat), .int .i64 (C.full : Nat)] 66)) Z.heap.size (Dd C) := di.new Z (Dd C);have xu : Below Z.heap.size Z (Z.alloc (.cells #[.int .i64 0, .int .i64 0, .int .i64 0, .int .i64 (C.add : Nat), .int .i64 (C.same : Nat), .int .i64 (C.other : Nat), .int .i64 (C.dw : Nat), .int .i64 (C.full : Nat)] 66)) := (acG Z.heap.size Z).alloc (acE _) _;generalize Z.alloc (.cells #[.int .i64 0, .int .i64 0, .int .i64 0, .int .i64 (C.add : Nat), .int .i64 (C.same : Nat), .int .i64 (C.other : Nat), .int .i64 (C.dw : Nat), .int .i64 (C.full : Nat)] 66) = Q at Zz xu ⊢;obtain ⟨FQ, Oi⟩ : ∃ b, Z.heap.size = b := ⟨_, rfl⟩
     have AF : Hid (¬ r = P.bt ∧ ¬ FQ = P.bt ∧ ¬ b = P.bt) := af (by
       have h1 := b_.out;have h2 := h1.2.2 P.bt (.inr (.inr (.inl rfl)));have h3 := HTZ.out.is.lt P.bt (.inr (.inr (.inl rfl)));exact ⟨by omega, by omega, by omega⟩)
     have aan : Hid (¬ P.gi = r ∧ ¬ b = r ∧ ¬ FQ = r) := af (by
       have h1 := b_.out;have h2 := h1.2.2 P.gi (.inl rfl);have h3 := Nw.out.lt;exact ⟨by omega, by omega, by omega⟩)
     have HTQ := af (HTZ.out.below xu);have HRQ := af (Nw.out.below xu);have HBQ := af (Sy.out.below xu);have Vb := af (HTZ.out.is.below xu);rw [Oi] at Zz ⊢;have HQQ := af Zz;obtain ⟨ix, Nr⟩ : ∃ i, m.ix = i := ⟨_, rfl⟩
     obtain ⟨E1, L1, hE⟩ : ∃ E L, f_ m.L se sq m.ix (Dd C) = (E, L) := ⟨_, _, rfl⟩
     have HI2 : Hid (qe m ⟨k, se, sq, a, sp, vo⟩ = (Dd C, E1, { m with S := S1, L := L1 })) := af (by rw [HI.out, hE]);have ZA : Hid (Q.cell? ⟨P.gi, 1, none⟩ = some (.pointer (some ⟨P.gt, 0, none⟩)) ∧ Q.cell? ⟨P.gi, 2, none⟩ = some (.int .i64 ix)) := af ⟨Vb.out.row.c1, by rw [← Nr]; exact Vb.out.row.c2⟩;have HKE : Hid (Calls prog 182 #[.pointer (some ⟨P.gt, 0, none⟩), .int .i64 se, .int .i64 sq, .int .i64 ix, .agg #[.int .i64 0, .int .i64 0, .int .i64 0, .int .i64 (C.add : Nat), .int .i64 (C.same : Nat), .int .i64 (C.other : Nat), .int .i64 (C.dw : Nat), .int .i64 (C.full : Nat)]] Q.drew (sE Q.drew P.gt P.bt E1 L1)) := af (by
       have hh := yW (Vb.out.drewN 1).tb (n := se) (m := sq) (a := m.ix) (r := Dd C) (ad5 (by have := H12.out; omega)) (by have := H12.out; omega) (by have := H12.out; omega);dsimp only at hh;rw [hE, Nr] at hh;exact hh)
     clear Nr hE Zz xu z0 z1 z2 z3 z4;refine ado (S := (fun U => U.cell? ⟨P.gi, 1, none⟩ = some (.pointer (some ⟨P.gt, 0, none⟩)) ∧ U.cell? ⟨P.gi, 2, none⟩ = some (.int .i64 ix) ∧ U.cell? ⟨b, 1, none⟩ = some (.int .i64 se) ∧ U.cell? ⟨b, 2, none⟩ = some (.int .i64 sq) ∧ U.cell? ⟨FQ, 0, none⟩ = some (.int .i64 0) ∧ U.cell? ⟨FQ, 1, none⟩ = some (.int .i64 0) ∧ U.cell? ⟨FQ, 2, none⟩ = some (.int .i64 0) ∧ U.cell? ⟨FQ, 3, none⟩ = some (.int .i64 (C.add : Nat)) ∧ U.cell? ⟨FQ, 4, none⟩ = some (.int .i64 (C.same : Nat)) ∧ U.cell? ⟨FQ, 5, none⟩ = some (.int .i64 (C.other : Nat)) ∧ U.cell? ⟨FQ, 6, none⟩ = some (.int .i64 (C.dw : Nat)) ∧ U.cell? ⟨FQ, 7, none⟩ = some (.int .i64 (C.full : Nat)))) (by kernel_rfl) ?_ (fun hHeld => ?_)
     ·(try dsimp only)
      exact ⟨ZA.out.1, ZA.out.2, HBQ.out.box.2.1, HBQ.out.box.2.2.1, HQQ.out.z⟩
     refine fy (i := 0) (v := (.agg #[.int .i64 0, .int .i64 0, .int .i64 0, .int .i64 (C.add : Nat), .int .i64 (C.same : Nat), .int .i64 (C.other : Nat), .int .i64 (C.dw : Nat), .int .i64 (C.full : Nat)])) (eY rfl) (by rfl) ?_ ?_
     ·intro w cq
      (try dsimp only at cq)
      go_simp;try with_reducible rfl
     try simp only [Act.put, qA, qB, qC]
     refine ao 1 rfl ?_;refine ao 2 rfl ?_;refine ao 3 rfl ?_;refine ao 4 rfl ?_;refine ao 5 rfl ?_;refine ao 6 rfl ?_;refine ao 7 rfl ?_;refine ao 8 rfl ?_;refine ao 9 rfl ?_;refine ao 10 rfl ?_;refine ao 11 rfl ?_;refine ao 12 rfl ?_;refine fy (i := 13) (v := (.agg #[.int .i64 0, .int .i64 0, .int .i64 0, .int .i64 (C.add : Nat), .int .i64 (C.same : Nat), .int .i64 (C.other : Nat), .int .i64 (C.dw : Nat), .int .i64 (C.full : Nat)])) (eY rfl) (by rfl) ?_ ?_
     ·intro w cq
      (try dsimp only at cq)
      go_simp;try with_reducible rfl
     try simp only [Act.put, qA, qB, qC]
     refine acU (rs := [14]) (by kernel_rfl) (by simp) ?_;refine dz rfl (fun K hK => ?_) ?_
     ·go_simp;go_at_call 182
      refine (HKE.out).mono ?_;rintro e6 w6 ⟨rfl, xv, yX⟩;have HT6 : Hid (fV w w6 P { P with R := R' } { m with S := S1, L := L1 }) := af ⟨((Vb.out.drewN 1).tab xv yX).is, rfl, (HTQ.out.below (ag Q 1)).aU.trans yX (fun k e => .inl (.inr (.inl e))), HTQ.out.new⟩;have FR := af ((show di Q.drew r iG from HRQ.out).aU yX AF.out.1);have HQ6 := af ((show di Q.drew FQ (Dd C) from HQQ.out).aU yX AF.out.2.1);have Hl := af ((show bk Q.drew b k se sq a (.slice p n d) (.slice q mq f) from HBQ.out).aU yX AF.out.2.2);have GX : Hid (w6.cell? ⟨P.gi, 1, none⟩ = some (.pointer (some ⟨P.gt, 0, none⟩)) ∧ w6.cell? ⟨P.gi, 2, none⟩ = some (.int .i64 ix)) := af ⟨yX.cell ZA.out.1 Vb.out.a2.2, yX.cell ZA.out.2 Vb.out.a2.2⟩;clear xv yX;obtain ⟨j0, j1, j2, j3, j4, j5, j6, j7⟩ := FR.out.z;obtain ⟨f0, f1, f2, f3, f4, f5, f6, f7⟩ := FR.out.f;first
       | refine hK.out _ _ ?_ (fun hHeld => ?_)
       | (go_wp2_with fail; refine hK.out _ _ ?_ (fun hHeld => ?_))
      ·(try dsimp only)
       exact ⟨GX.out.1, GX.out.2, Hl.out.box.2.1, Hl.out.box.2.2.1, HQ6.out.z⟩
      clear hK K;try simp only [Act.put, qA, qB, qC]
      refine acU (rs := [15]) (by kernel_rfl) (by simp) ?_;refine dz rfl (fun K hK => ?_) ?_
      ·go_simp;go_at_call 147
       refine (gV E1 _).mono ?_;rintro e7 w7 ⟨rfl, rfl⟩;first
        | refine hK.out _ _ ?_ (fun hHeld => ?_)
        | (go_wp2_with fail; refine hK.out _ _ ?_ (fun hHeld => ?_))
       ·(try dsimp only)
        exact ⟨GX.out.1, GX.out.2, Hl.out.box.2.1, Hl.out.box.2.2.1, HQ6.out.z⟩
       clear hK K;try simp only [Act.put, qA, qB, qC]
       refine acU (rs := [16]) (by kernel_rfl) (by simp) ?_;refine dz rfl (fun K hK => ?_) ?_
       ·go_simp;first
         | refine hK.out _ _ ?_ (fun hHeld => ?_)
         | (go_wp2_with fail; refine hK.out _ _ ?_ (fun hHeld => ?_))
        ·(try dsimp only)
         have h1 := bT w6 r (Dd C);have aN := aan.out;exact ⟨h1.cell GX.out.1 aN.1, h1.cell GX.out.2 aN.1, h1.cell Hl.out.box.2.1 aN.2.1, h1.cell Hl.out.box.2.2.1 aN.2.1, (HQ6.out.aU h1 aN.2.2).z⟩
        clear hK K;try simp only [Act.put, qA, qB, qC]
        refine ao 17 rfl ?_;refine adO (by kernel_rfl) ?_ _;go_wp2;have hst := cV FR.out (Dd C);have hcs := bT w6 r (Dd C);unfold kV Dd at hst hcs;dsimp only at hst hcs;refine ac0 (v := .tuple #[.agg #[.int .i64 0, .int .i64 0, .int .i64 0, .int .i64 (C.add : Nat), .int .i64 (C.same : Nat), .int .i64 (C.other : Nat), .int .i64 (C.dw : Nat), .int .i64 (C.full : Nat)], rR E1]) (by
          generalize World.setCell (World.setCell (World.setCell (World.setCell (World.setCell (World.setCell (World.setCell (World.setCell w6 ⟨r, 0, none⟩ (.int .i64 0)) ⟨r, 1, none⟩ (.int .i64 0)) ⟨r, 2, none⟩ (.int .i64 0)) ⟨r, 3, none⟩ (.int .i64 (C.add : Nat))) ⟨r, 4, none⟩ (.int .i64 (C.same : Nat))) ⟨r, 5, none⟩ (.int .i64 (C.other : Nat))) ⟨r, 6, none⟩ (.int .i64 (C.dw : Nat))) ⟨r, 7, none⟩ (.int .i64 (C.full : Nat)) = W9 at hst ⊢;obtain ⟨m0, m1, m2, m3, m4, m5, m6, m7⟩ := hst.z;dsimp only at m0 m1 m2 m3 m4 m5 m6 m7;simp [results, results149, go_sem, m0, m1, m2, m3, m4, m5, m6, m7]) rfl ?_
        rw [HI2.out];exact ⟨rfl, { P with R := R' }, HT6.out.box HM.out.er hcs (by have := b_.out; omega) Qq.out⟩
       exact acR
      exact acR
     exact acR
   ·subst U9;have HI : Hid (qe m ⟨k, se, sq, a, sp, vo⟩ = (qr, 0, m)) := af (by
      have h1 := HQ.out;unfold qe;dsimp only;rw [h1];exact acW (.inr rfl))
    go_upto_region 3 with fail
    refine ado (S := (fun U => U.cell? ⟨b6, 0, none⟩ = some (.int .i64 qr.er) ∧ U.cell? ⟨b6, 1, none⟩ = some (.int .i64 qr.rs) ∧ U.cell? ⟨b6, 2, none⟩ = some (.int .i64 qr.gn) ∧ U.cell? ⟨b6, 3, none⟩ = some (.int .i64 qr.ad) ∧ U.cell? ⟨b6, 4, none⟩ = some (.int .i64 qr.sa) ∧ U.cell? ⟨b6, 5, none⟩ = some (.int .i64 qr.ot) ∧ U.cell? ⟨b6, 6, none⟩ = some (.int .i64 qr.cy) ∧ U.cell? ⟨b6, 7, none⟩ = some (.int .i64 qr.fu))) (by kernel_rfl) ?_ (fun hHeld => ?_)
    ·(try dsimp only)
     exact (show di Y.drew b6 qr from eH.out).z
    refine fy (i := 0) (v := (.agg #[.int .i64 qr.er, .int .i64 qr.rs, .int .i64 qr.gn, .int .i64 qr.ad, .int .i64 qr.sa, .int .i64 qr.ot, .int .i64 qr.cy, .int .i64 qr.fu])) (eY rfl) (by rfl) ?_ ?_
    ·intro w cq
     (try dsimp only at cq)
     go_simp;try with_reducible rfl
    try simp only [Act.put, qA, qB, qC]
    refine ao 1 rfl ?_;refine acU (rs := [2]) (by kernel_rfl) (by simp) ?_;refine dz rfl (fun K hK => ?_) ?_
    ·go_simp;go_at_call 147
     refine (gV 0 _).mono ?_;rintro e6 w6 ⟨rfl, Wy⟩;have Hm : Hid (Below Y.heap.size Y w6) := af (Wy ▸ ag Y 1);clear Wy;obtain ⟨j0, j1, j2, j3, j4, j5, j6, j7⟩ := (oO.out.below Hm.out).z;obtain ⟨f0, f1, f2, f3, f4, f5, f6, f7⟩ := (oO.out.below Hm.out).f;first
      | refine hK.out _ _ ?_ (fun hHeld => ?_)
      | (go_wp2_with fail; refine hK.out _ _ ?_ (fun hHeld => ?_))
     ·(try dsimp only)
      exact (eH.out.below Hm.out).z
     clear hK K;try simp only [Act.put, qA, qB, qC]
     refine acU (rs := [3]) (by kernel_rfl) (by simp) ?_;refine dz rfl (fun K hK => ?_) ?_
     ·go_simp;first
       | refine hK.out _ _ ?_ (fun hHeld => ?_)
       | (go_wp2_with fail; refine hK.out _ _ ?_ (fun hHeld => ?_))
      ·(try dsimp only)
       exact ((eH.out.below Hm.out).aU (bT w6 r qr) (fun (e : b6 = r) => by have := oL.out; have := mR.out.lt; omega)).z
      clear hK K;try simp only [Act.put, qA, qB, qC]
      refine ao 4 rfl ?_;refine adO (by kernel_rfl) ?_ _;go_wp2;have hst := cV (oO.out.below Hm.out) qr;have hcs := bT w6 r qr;unfold kV at hst hcs;refine ac0 (v := .tuple #[.agg #[.int .i64 qr.er, .int .i64 qr.rs, .int .i64 qr.gn, .int .i64 qr.ad, .int .i64 qr.sa, .int .i64 qr.ot, .int .i64 qr.cy, .int .i64 qr.fu], rR 0]) (by
        generalize World.setCell (World.setCell (World.setCell (World.setCell (World.setCell (World.setCell (World.setCell (World.setCell w6 ⟨r, 0, none⟩ (.int .i64 qr.er)) ⟨r, 1, none⟩ (.int .i64 qr.rs)) ⟨r, 2, none⟩ (.int .i64 qr.gn)) ⟨r, 3, none⟩ (.int .i64 qr.ad)) ⟨r, 4, none⟩ (.int .i64 qr.sa)) ⟨r, 5, none⟩ (.int .i64 qr.ot)) ⟨r, 6, none⟩ (.int .i64 qr.cy)) ⟨r, 7, none⟩ (.int .i64 qr.fu) = W9 at hst ⊢;obtain ⟨m0, m1, m2, m3, m4, m5, m6, m7⟩ := hst.z;simp [results, results149, go_sem, m0, m1, m2, m3, m4, m5, m6, m7]) rfl ?_
      rw [HI.out];refine ⟨rfl, P, fV.box HM.out.er ((HM.out.toB Og.out).below Hm.out) hcs (by have := b_.out; omega) (fun hk => by have := b_.out.2.2 r hk; have := b_.out; omega)⟩
     exact acR
    exact acR
  ·have h1 : (e0 == 0) = false := by simpa using h0
   have HI : Hid (qe m ⟨k, se, sq, a, sp, vo⟩ = (qr, e0, m)) := af (by
     have h1 := HQ.out;unfold qe;dsimp only;rw [h1];exact acW (.inl h0))
   go_upto_region 3 with fail
   refine ado (S := (fun U => U.cell? ⟨b6, 0, none⟩ = some (.int .i64 qr.er) ∧ U.cell? ⟨b6, 1, none⟩ = some (.int .i64 qr.rs) ∧ U.cell? ⟨b6, 2, none⟩ = some (.int .i64 qr.gn) ∧ U.cell? ⟨b6, 3, none⟩ = some (.int .i64 qr.ad) ∧ U.cell? ⟨b6, 4, none⟩ = some (.int .i64 qr.sa) ∧ U.cell? ⟨b6, 5, none⟩ = some (.int .i64 qr.ot) ∧ U.cell? ⟨b6, 6, none⟩ = some (.int .i64 qr.cy) ∧ U.cell? ⟨b6, 7, none⟩ = some (.int .i64 qr.fu))) (by kernel_rfl) ?_ (fun hHeld => ?_)
   ·(try dsimp only)
    exact (show di Y.drew b6 qr from eH.out).z
   refine fy (i := 0) (v := (.agg #[.int .i64 qr.er, .int .i64 qr.rs, .int .i64 qr.gn, .int .i64 qr.ad, .int .i64 qr.sa, .int .i64 qr.ot, .int .i64 qr.cy, .int .i64 qr.fu])) (eY rfl) (by rfl) ?_ ?_
   ·intro w cq
    (try dsimp only at cq)
    go_simp;try with_reducible rfl
   try simp only [Act.put, qA, qB, qC]
   refine ao 1 rfl ?_;refine acU (rs := [2]) (by kernel_rfl) (by simp) ?_;refine dz rfl (fun K hK => ?_) ?_
   ·go_simp;go_at_call 147
    refine (gV e0 _).mono ?_;rintro e6 w6 ⟨rfl, Wy⟩;have Hm : Hid (Below Y.heap.size Y w6) := af (Wy ▸ ag Y 1);clear Wy;obtain ⟨j0, j1, j2, j3, j4, j5, j6, j7⟩ := (oO.out.below Hm.out).z;obtain ⟨f0, f1, f2, f3, f4, f5, f6, f7⟩ := (oO.out.below Hm.out).f;first
     | refine hK.out _ _ ?_ (fun hHeld => ?_)
     | (go_wp2_with fail; refine hK.out _ _ ?_ (fun hHeld => ?_))
    ·(try dsimp only)
     exact (eH.out.below Hm.out).z
    clear hK K;try simp only [Act.put, qA, qB, qC]
    refine acU (rs := [3]) (by kernel_rfl) (by simp) ?_;refine dz rfl (fun K hK => ?_) ?_
    ·go_simp;first
      | refine hK.out _ _ ?_ (fun hHeld => ?_)
      | (go_wp2_with fail; refine hK.out _ _ ?_ (fun hHeld => ?_))
     ·(try dsimp only)
      exact ((eH.out.below Hm.out).aU (bT w6 r qr) (fun (e : b6 = r) => by have := oL.out; have := mR.out.lt; omega)).z
     clear hK K;try simp only [Act.put, qA, qB, qC]
     refine ao 4 rfl ?_;refine adO (by kernel_rfl) ?_ _;go_wp2;have hst := cV (oO.out.below Hm.out) qr;have hcs := bT w6 r qr;unfold kV at hst hcs;refine ac0 (v := .tuple #[.agg #[.int .i64 qr.er, .int .i64 qr.rs, .int .i64 qr.gn, .int .i64 qr.ad, .int .i64 qr.sa, .int .i64 qr.ot, .int .i64 qr.cy, .int .i64 qr.fu], rR e0]) (by
       generalize World.setCell (World.setCell (World.setCell (World.setCell (World.setCell (World.setCell (World.setCell (World.setCell w6 ⟨r, 0, none⟩ (.int .i64 qr.er)) ⟨r, 1, none⟩ (.int .i64 qr.rs)) ⟨r, 2, none⟩ (.int .i64 qr.gn)) ⟨r, 3, none⟩ (.int .i64 qr.ad)) ⟨r, 4, none⟩ (.int .i64 qr.sa)) ⟨r, 5, none⟩ (.int .i64 qr.ot)) ⟨r, 6, none⟩ (.int .i64 qr.cy)) ⟨r, 7, none⟩ (.int .i64 qr.fu) = W9 at hst ⊢;obtain ⟨m0, m1, m2, m3, m4, m5, m6, m7⟩ := hst.z;simp [results, results149, go_sem, m0, m1, m2, m3, m4, m5, m6, m7]) rfl ?_
     rw [HI.out];refine ⟨rfl, P, fV.box HM.out.er ((HM.out.toB Og.out).below Hm.out) hcs (by have := b_.out; omega) (fun hk => by have := b_.out.2.2 r hk; have := b_.out; omega)⟩
    exact acR
   exact acR
end Go.Proofs.YtionbmlicmibgaaGreatDoor
