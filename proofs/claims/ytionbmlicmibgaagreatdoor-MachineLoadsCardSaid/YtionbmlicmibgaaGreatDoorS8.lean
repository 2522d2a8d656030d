import Derived.Lib.SlKeysI
import Derived.Test.YtionbmlicmibgaaGreatDoorS7
set_option linter.unusedVariables false
set_option linter.unusedSimpArgs false
namespace Go.Proofs.YtionbmlicmibgaaGreatDoor
open Go.Proofs.Tryz
set_option maxRecDepth 200000
set_option maxHeartbeats 4000000
open Go.RowKit
theorem CH {L : List Sp} {x : Sp} {t : Int} (hx : x.ok = true) (ht : x.t = t) : wI t L [x] = .tuple #[iJ (bF L cQ x).2, .int .i64 0] := by
 unfold wI;rw [acW (by simp [hx, ht])];rfl
theorem CJ {L : List Sp} {x : Sp} {t : Int} (hx : x.ok = true) (ht : x.t = t) : wJ t L [x] = (bF L cQ x).1 := by
 unfold wJ;rw [acW (by simp [hx, ht])];rfl
theorem CK (w : World) (x : Sp) : iY (w.alloc (.cells #[.int .i64 x.t, .int .i64 x.i, .int .i64 x.p, .int .i64 x.s, .int .i64 x.e, .string x.n] 30)) (.slice (some ⟨w.heap.size, 0, none⟩) 1 1) [x] := by
 refine ⟨_, 1, rfl, acE _, by decide, (fun e => by cases e), fun _ => ⟨_, 0, rfl, fun i y hi => ?_⟩⟩
 match i, hi with
 | 0, hi =>
  simp at hi;subst hi;exact az w x
 | i + 1, hi => simp at hi
theorem zZ {x : Sp} (hx : x.ok = true) : x.n.size ≤ 1100000 := by
 have := ((Sp.aO x).1 hx).n2;have h2 : x.nl.length = x.n.size := by simp [Sp.nl]
 omega
theorem yq {R : List Tr} {x : Sp} {y : Tr} (h : bj kR R x.t = some y) : cW (R.map Tr.pl) x = (aH kP (R.map Tr.pl) (x.t, (bF y.L cQ x).1), (bF y.L cQ x).2) := by
 unfold cW;rw [jm Tr.pl nZ, h];rfl
theorem yu {R : List Tr} {x : Sp} (h : bj kR R x.t = none) (hl : 32 ≤ R.length) : cW (R.map Tr.pl) x = (R.map Tr.pl, ⟨0, 0, 0, 0, 1⟩) := by
 unfold cW;rw [jm Tr.pl nZ, h];dsimp only [Option.map];rw [acW (by simpa using hl)]
theorem CL {R : List Tr} {x : Sp} (h : bj kR R x.t = none) (hl : ¬ 32 ≤ R.length) : cW (R.map Tr.pl) x = (aH kP (R.map Tr.pl) (x.t, (bF [] cQ x).1), (bF [] cQ x).2) := by
 unfold cW;rw [jm Tr.pl nZ, h];dsimp only [Option.map];rw [acO (by simpa using hl)]
def mM (w : World) (gs bm : Nat) (R : List Tr) (x : Sp) (e : Ending) (w' : World) : Prop := e = .returned (iJ (cW (R.map Tr.pl) x).2) ∧ ∃ R', gC w w' gs bm R R' (cW (R.map Tr.pl) x).1
theorem Ju {w : World} {gs bm : Nat} {R : List Tr} {x : Sp} {y : Tr} (h : bR w gs bm R) (hx : x.ok = true) (hf : bj kR R x.t = some y) : Calls prog 198 #[.pointer (some ⟨gs, 0, none⟩), dZ x] w (mM w gs bm R x) := by
 obtain ⟨hy, NJ⟩ := fR hf;have pX := (Sp.aO x).1 hx;have hwf : (Lit.int .i64 x.t).wf = true := ad5 (by have := pX.t1; have := pX.t2; omega);have wQ := ((acG w.heap.size w).alloc (acE _) (.cells #[.int .i64 x.t, .int .i64 x.i, .int .i64 x.p, .int .i64 x.s, .int .i64 x.e, .string x.n] 30))
 have vH := wQ.alloc wQ.size (.cells #[.int .i64 0, .int .i64 0, .int .i64 0, .int .i64 0, .int .i64 0] 64);have BX := acQ w (.cells #[.int .i64 x.t, .int .i64 x.i, .int .i64 x.p, .int .i64 x.s, .int .i64 x.e, .string x.n] 30);have eO := acQ (w.alloc (.cells #[.int .i64 x.t, .int .i64 x.i, .int .i64 x.p, .int .i64 x.s, .int .i64 x.e, .string x.n] 30)) (.cells #[.int .i64 0, .int .i64 0, .int .i64 0, .int .i64 0, .int .i64 0] 64);have vD := az w x;obtain ⟨Z, hZ⟩ : ∃ Z, (w.alloc (.cells #[.int .i64 x.t, .int .i64 x.i, .int .i64 x.p, .int .i64 x.s, .int .i64 x.e, .string x.n] 30)).alloc (.cells #[.int .i64 0, .int .i64 0, .int .i64 0, .int .i64 0, .int .i64 0] 64) = Z := ⟨_, rfl⟩
 have Fq : cj Z w.heap.size 0 x := by rw [← hZ]; exact vD.below ((acG _ _).alloc (acE _) _)
 have EX : Z.heap.size = w.heap.size + 2 := by rw [← hZ]; simp
 have RE : Z.heap[w.heap.size + 1]? = some (.cells #[.int .i64 0, .int .i64 0, .int .i64 0, .int .i64 0, .int .i64 0] 64) := by
  rw [← hZ]
  simpa using eO
 rw [hZ] at vH;have Fs := h.below vH;have c0 := Fs.c0;obtain ⟨D, hD⟩ := Fs.map;have hl := fun q => hD.look hwf q;rw [hf] at hl;have Kd := hl 0;have Xr := Fs.fo y hy;obtain ⟨z0, z1, z2, z3, z4, z5⟩ := Fq.z;have HZ := af hZ;have HH := af h;have HX := af (acD hx (acD hy (acD (show x.t = y.t from NJ.symm) hf)));have yv := af (acD vH (acD EX RE));have J8 := af Xr;have nR := af Fs;clear h hx pX hwf vH BX eO vD Fq RE Fs hD Xr hZ EX hf NJ hy wQ;obtain ⟨t, i, p', s, en, nm⟩ := x;unfold dZ zX Tr.v at *;dsimp only at *;go_enter func198, ntmps198
 go_wp2_with fail
 rw [HZ.out];go_quiet (fail)
 go_wp2_with fail
 have hA := Gu ((J8.out.drewN nq).below ((acG _ _).alloc (acE _) (.cells #[.int .i64 t, .int .i64 i, .int .i64 p', .int .i64 s, .int .i64 en, .string nm] 30))) (CK (Z.drewN nq) ⟨t, i, p', s, en, nm⟩) (by simp) (fun x hx => by
  simp only [ac9, ad_, afd] at hx;subst hx;exact zZ HX.out.1)
 refine hA.mono ?_;clear hA;rintro e5 w5 ⟨wP, Uy, lA⟩;obtain ⟨C, hC⟩ : ∃ C, (bF y.L cQ ⟨t, i, p', s, en, nm⟩).2 = C := ⟨_, rfl⟩
 obtain rfl : e5 = .returned (.tuple #[.agg #[.int .i64 (C.add : Nat), .int .i64 (C.same : Nat), .int .i64 (C.other : Nat), .int .i64 (C.dw : Nat), .int .i64 (C.full : Nat)], .int .i64 0]) := by
  rw [CH HX.out.1 HX.out.2.2.1, hC] at wP;exact wP
 rw [CJ HX.out.1 HX.out.2.2.1] at Uy;have HC := af hC;have MY : ak w w5 (fun k => k = y.b) := (((ak.of_below yv.out.1 (fun k => k = y.b)).drewN nq).alloc _).trans lA (fun k hk => .inl hk);have hyl := (HH.out.fo y HX.out.2.1).lt;have oY : w5.heap[w.heap.size + 1]? = some (.cells #[.int .i64 0, .int .i64 0, .int .i64 0, .int .i64 0, .int .i64 0] 64) := by
  have hb := ((acG (Z.drewN nq).heap.size (Z.drewN nq)).alloc (acE _) (.cells #[.int .i64 t, .int .i64 i, .int .i64 p', .int .i64 s, .int .i64 en, .string nm] 30))
  have EX := yv.out.2.1;rw [lA.block (w.heap.size + 1) (by simp; omega) (by omega), hb.block (w.heap.size + 1) (by show w.heap.size + 1 < Z.heap.size; omega)];exact yv.out.2.2
 have FW := af (acD MY (acD Uy hyl));have VW : w.heap.size + 1 < w5.heap.size := (acJ.1 oY).1;have aL := (acG w5.heap.size w5).alloc (acE _) (.cells #[.int .i64 (C.add : Nat), .int .i64 (C.same : Nat), .int .i64 (C.other : Nat), .int .i64 (C.dw : Nat), .int .i64 (C.full : Nat)] 64);have w_ := acQ w5 (.cells #[.int .i64 (C.add : Nat), .int .i64 (C.same : Nat), .int .i64 (C.other : Nat), .int .i64 (C.dw : Nat), .int .i64 (C.full : Nat)] 64);have lX := (aL.block (w.heap.size + 1) VW).trans oY;clear wP Uy lA hC MY hyl oY;go_upto_region 8 with fail
 obtain ⟨W6, YH⟩ : ∃ W6, w5.alloc (.cells #[.int .i64 (C.add : Nat), .int .i64 (C.same : Nat), .int .i64 (C.other : Nat), .int .i64 (C.dw : Nat), .int .i64 (C.full : Nat)] 64) = W6 := ⟨_, rfl⟩
 rw [YH] at aL w_ lX ⊢;have m0 := acC W6 (w.heap.size + 1) 0 _ 64 (0, 0) lX;have mf0 := acI W6 (w.heap.size + 1) 0 _ 64 lX;have n0 := acC W6 w5.heap.size 0 _ 64 (0, 0) w_;have m1 := acC W6 (w.heap.size + 1) 1 _ 64 (0, 0) lX;have mf1 := acI W6 (w.heap.size + 1) 1 _ 64 lX;have n1 := acC W6 w5.heap.size 1 _ 64 (0, 0) w_;have m2 := acC W6 (w.heap.size + 1) 2 _ 64 (0, 0) lX;have mf2 := acI W6 (w.heap.size + 1) 2 _ 64 lX;have n2 := acC W6 w5.heap.size 2 _ 64 (0, 0) w_;have m3 := acC W6 (w.heap.size + 1) 3 _ 64 (0, 0) lX;have mf3 := acI W6 (w.heap.size + 1) 3 _ 64 lX;have n3 := acC W6 w5.heap.size 3 _ 64 (0, 0) w_;have m4 := acC W6 (w.heap.size + 1) 4 _ 64 (0, 0) lX;have mf4 := acI W6 (w.heap.size + 1) 4 _ 64 lX;have n4 := acC W6 w5.heap.size 4 _ 64 (0, 0) w_;simp only [afg, aeh, ad2] at m0 m1 m2 m3 m4 n0 n1 n2 n3 n4;have FR := af (acD lX (acD w_ aL));clear lX w_ aL YH;go_wp2;refine ac0 (v := iJ C) (by
  have q5 := dq FR.out.1 (.int .i64 (C.add : Nat)) (.int .i64 (C.same : Nat)) (.int .i64 (C.other : Nat)) (.int .i64 (C.dw : Nat)) (.int .i64 (C.full : Nat));generalize (((((W6.setCell ⟨w.heap.size + 1, 0, none⟩ (.int .i64 (C.add : Nat))).setCell ⟨w.heap.size + 1, 1, none⟩ (.int .i64 (C.same : Nat))).setCell ⟨w.heap.size + 1, 2, none⟩ (.int .i64 (C.other : Nat))).setCell ⟨w.heap.size + 1, 3, none⟩ (.int .i64 (C.dw : Nat))).setCell ⟨w.heap.size + 1, 4, none⟩ (.int .i64 (C.full : Nat))) = W9 at q5 ⊢;have m0 := acC W9 (w.heap.size + 1) 0 _ 64 (0, 0) q5;have m1 := acC W9 (w.heap.size + 1) 1 _ 64 (0, 0) q5;have m2 := acC W9 (w.heap.size + 1) 2 _ 64 (0, 0) q5;have m3 := acC W9 (w.heap.size + 1) 3 _ 64 (0, 0) q5;have m4 := acC W9 (w.heap.size + 1) 4 _ 64 (0, 0) q5;have kQ : w.heap.size + 1 < W9.heap.size := by have := (acJ.1 q5).1; exact this
  clear q5;unfold iJ;simp at m0 m1 m2 m3 m4;simp [results, results198, go_sem, m0, m1, m2, m3, m4, kQ]) rfl ⟨by rw [yq HX.out.2.2.2, HC.out], aH kR R { y with L := (bF y.L cQ ⟨t, i, p', s, en, nm⟩).1 }, ?_⟩
 have lO := bN (FW.out.1.cC FR.out.2.2) (.inr (by omega) : w.heap.size + 1 = y.b ∨ w.heap.size ≤ w.heap.size + 1) (.int .i64 (C.add : Nat)) (.int .i64 (C.same : Nat)) (.int .i64 (C.other : Nat)) (.int .i64 (C.dw : Nat)) (.int .i64 (C.full : Nat));have hf9 := FW.out.2.1.aU (bN (ak.of_below FR.out.2.2 (fun k => k = w.heap.size + 1)) (.inl rfl) (.int .i64 (C.add : Nat)) (.int .i64 (C.same : Nat)) (.int .i64 (C.other : Nat)) (.int .i64 (C.dw : Nat)) (.int .i64 (C.full : Nat))) (by have := FW.out.2.2.1; omega) (by have := FW.out.2.2.2; omega);have NJ : y.t = t := HX.out.2.2.1.symm;have aT := sK HH.out.ok HX.out.1;rw [yq HX.out.2.2.2] at aT ⊢;dsimp only at aT ⊢;refine ⟨HH.out.yo HX.out.2.1 hf9 lO (by rw [NJ]; exact aT), ?_, lO.mono (fun k hk => .inr ⟨y, HX.out.2.1, hk⟩), fun k hk => ?_⟩
 ·rw [fP Tr.pl nZ]
  show aH kP (R.map Tr.pl) (y.t, _) = _
  rw [NJ]
 ·rcases Gw HH.out.rises hk with h1 | h1 | h1
  ·exact .inl h1
  ·exact .inl (.inr (.inr ⟨y, HX.out.2.1, .inl h1⟩))
  ·exact .inl (.inr (.inr ⟨y, HX.out.2.1, .inr h1⟩))
theorem Jv {w : World} {gs bm : Nat} {R : List Tr} {x : Sp} (h : bR w gs bm R) (hx : x.ok = true) (hf : bj kR R x.t = none) (hL : 32 ≤ R.length) : Calls prog 198 #[.pointer (some ⟨gs, 0, none⟩), dZ x] w (mM w gs bm R x) := by
 have pX := (Sp.aO x).1 hx;have hwf : (Lit.int .i64 x.t).wf = true := ad5 (by have := pX.t1; have := pX.t2; omega);have wQ := ((acG w.heap.size w).alloc (acE _) (.cells #[.int .i64 x.t, .int .i64 x.i, .int .i64 x.p, .int .i64 x.s, .int .i64 x.e, .string x.n] 30))
 have vH := wQ.alloc wQ.size (.cells #[.int .i64 0, .int .i64 0, .int .i64 0, .int .i64 0, .int .i64 0] 64);have BX := acQ w (.cells #[.int .i64 x.t, .int .i64 x.i, .int .i64 x.p, .int .i64 x.s, .int .i64 x.e, .string x.n] 30);have eO := acQ (w.alloc (.cells #[.int .i64 x.t, .int .i64 x.i, .int .i64 x.p, .int .i64 x.s, .int .i64 x.e, .string x.n] 30)) (.cells #[.int .i64 0, .int .i64 0, .int .i64 0, .int .i64 0, .int .i64 0] 64);have vD := az w x;obtain ⟨Z, hZ⟩ : ∃ Z, (w.alloc (.cells #[.int .i64 x.t, .int .i64 x.i, .int .i64 x.p, .int .i64 x.s, .int .i64 x.e, .string x.n] 30)).alloc (.cells #[.int .i64 0, .int .i64 0, .int .i64 0, .int .i64 0, .int .i64 0] 64) = Z := ⟨_, rfl⟩
 have Fq : cj Z w.heap.size 0 x := by rw [← hZ]; exact vD.below ((acG _ _).alloc (acE _) _)
 have EX : Z.heap.size = w.heap.size + 2 := by rw [← hZ]; simp
 have RE : Z.heap[w.heap.size + 1]? = some (.cells #[.int .i64 0, .int .i64 0, .int .i64 0, .int .i64 0, .int .i64 0] 64) := by
  rw [← hZ]
  simpa using eO
 rw [hZ] at vH;have Fs := h.below vH;have c0 := Fs.c0;obtain ⟨D, hD⟩ := Fs.map;have hl := fun q => hD.look hwf q;rw [hf] at hl;have hlen := fun q => (hD.drewN q).map.len aeJ 3;have HD := af hD;have Kd := hl 0;obtain ⟨z0, z1, z2, z3, z4, z5⟩ := Fq.z;have hL9 : (32 : Int) ≤ (R.length : Int) := by omega
 have HL := af hL;clear hL;have HZ := af hZ;have HH := af h;have HX := af (acD hx hf);have yv := af (acD vH (acD EX RE));have nR := af Fs;clear h hx pX hwf vH BX eO vD Fq RE Fs hD  hZ EX hf wQ;obtain ⟨t, i, p', s, en, nm⟩ := x;unfold dZ zX at *;dsimp only at *;go_enter func198, ntmps198
 go_wp2_with fail
 rw [HZ.out];go_quiet (fail)
 have yw := hlen nq;obtain ⟨W, hW⟩ : ∃ W, Z.drewN nq = W := ⟨_, rfl⟩
 have YI : W.cell? ⟨gs, 0, none⟩ = some (.map (some bm)) := by rw [← hW]; exact c0
 have Fu : W.heap[w.heap.size + 1]? = some (.cells #[.int .i64 0, .int .i64 0, .int .i64 0, .int .i64 0, .int .i64 0] 64) := by rw [← hW]; exact yv.out.2.2
 have YJ : Below w.heap.size w W := by rw [← hW]; exact yv.out.1.trans (ag Z nq)
 rw [HD.out.rd.size, hW] at yw;rw [hW];have m0 := acC W (w.heap.size + 1) 0 _ 64 (0, 0) Fu;have mf0 := acI W (w.heap.size + 1) 0 _ 64 Fu;have m1 := acC W (w.heap.size + 1) 1 _ 64 (0, 0) Fu;have mf1 := acI W (w.heap.size + 1) 1 _ 64 Fu;have m2 := acC W (w.heap.size + 1) 2 _ 64 (0, 0) Fu;have mf2 := acI W (w.heap.size + 1) 2 _ 64 Fu;have m3 := acC W (w.heap.size + 1) 3 _ 64 (0, 0) Fu;have mf3 := acI W (w.heap.size + 1) 3 _ 64 Fu;have m4 := acC W (w.heap.size + 1) 4 _ 64 (0, 0) Fu;have mf4 := acI W (w.heap.size + 1) 4 _ 64 Fu;simp only [afg, aeh, ad2] at m0 m1 m2 m3 m4;have nh := af (acD Fu YJ);clear Fu YJ hW hlen hl Kd;go_wp2;refine ac0 (v := iJ ⟨0, 0, 0, 0, 1⟩) (by
  have q5 := dq nh.out.1 (.int .i64 0) (.int .i64 0) (.int .i64 0) (.int .i64 0) (.int .i64 1);generalize (((((W.setCell ⟨w.heap.size + 1, 0, none⟩ (.int .i64 0)).setCell ⟨w.heap.size + 1, 1, none⟩ (.int .i64 0)).setCell ⟨w.heap.size + 1, 2, none⟩ (.int .i64 0)).setCell ⟨w.heap.size + 1, 3, none⟩ (.int .i64 0)).setCell ⟨w.heap.size + 1, 4, none⟩ (.int .i64 1)) = W9 at q5 ⊢;have m0 := acC W9 (w.heap.size + 1) 0 _ 64 (0, 0) q5;have m1 := acC W9 (w.heap.size + 1) 1 _ 64 (0, 0) q5;have m2 := acC W9 (w.heap.size + 1) 2 _ 64 (0, 0) q5;have m3 := acC W9 (w.heap.size + 1) 3 _ 64 (0, 0) q5;have m4 := acC W9 (w.heap.size + 1) 4 _ 64 (0, 0) q5;have kQ : w.heap.size + 1 < W9.heap.size := by have := (acJ.1 q5).1; exact this
  clear q5;unfold iJ;simp at m0 m1 m2 m3 m4;simp [results, results198, go_sem, m0, m1, m2, m3, m4, kQ]) rfl ⟨by rw [yu HX.out.2 HL.out], R, ?_⟩
 have lO := bN (ak.of_below nh.out.2 (fun _ => False)) (.inr (by omega) : False ∨ w.heap.size ≤ w.heap.size + 1) (.int .i64 0) (.int .i64 0) (.int .i64 0) (.int .i64 0) (.int .i64 1);rw [yu HX.out.2 HL.out];exact ⟨HH.out.aU lO (fun _ _ h => h), rfl, lO.mono (fun k h => h.elim), fun k hk => .inl hk⟩
theorem MZ {w : World} {gs bm : Nat} {R : List Tr} {x : Sp} (h : bR w gs bm R) (hx : x.ok = true) (hf : bj kR R x.t = none) (hL : ¬ 32 ≤ R.length) : Calls prog 198 #[.pointer (some ⟨gs, 0, none⟩), dZ x] w (mM w gs bm R x) := by
 have pX := (Sp.aO x).1 hx;have hwf : (Lit.int .i64 x.t).wf = true := ad5 (by have := pX.t1; have := pX.t2; omega);have wQ := ((acG w.heap.size w).alloc (acE _) (.cells #[.int .i64 x.t, .int .i64 x.i, .int .i64 x.p, .int .i64 x.s, .int .i64 x.e, .string x.n] 30))
 have vH := wQ.alloc wQ.size (.cells #[.int .i64 0, .int .i64 0, .int .i64 0, .int .i64 0, .int .i64 0] 64);have BX := acQ w (.cells #[.int .i64 x.t, .int .i64 x.i, .int .i64 x.p, .int .i64 x.s, .int .i64 x.e, .string x.n] 30);have eO := acQ (w.alloc (.cells #[.int .i64 x.t, .int .i64 x.i, .int .i64 x.p, .int .i64 x.s, .int .i64 x.e, .string x.n] 30)) (.cells #[.int .i64 0, .int .i64 0, .int .i64 0, .int .i64 0, .int .i64 0] 64);have vD := az w x;obtain ⟨Z, hZ⟩ : ∃ Z, (w.alloc (.cells #[.int .i64 x.t, .int .i64 x.i, .int .i64 x.p, .int .i64 x.s, .int .i64 x.e, .string x.n] 30)).alloc (.cells #[.int .i64 0, .int .i64 0, .int .i64 0, .int .i64 0, .int .i64 0] 64) = Z := ⟨_, rfl⟩
 have Fq : cj Z w.heap.size 0 x := by rw [← hZ]; exact vD.below ((acG _ _).alloc (acE _) _)
 have EX : Z.heap.size = w.heap.size + 2 := by rw [← hZ]; simp
 have RE : Z.heap[w.heap.size + 1]? = some (.cells #[.int .i64 0, .int .i64 0, .int .i64 0, .int .i64 0, .int .i64 0] 64) := by
  rw [← hZ]
  simpa using eO
 rw [hZ] at vH;have Fs := h.below vH;have c0 := Fs.c0;obtain ⟨D, hD⟩ := Fs.map;have hl := fun q => hD.look hwf q;rw [hf] at hl;have hlen := fun q => (hD.drewN q).map.len aeJ 3;have HD := af hD;have Kd := hl 0;obtain ⟨z0, z1, z2, z3, z4, z5⟩ := Fq.z;have od := af Fq;have hL9 : ¬ (32 : Int) ≤ (R.length : Int) := by omega
 have HL := af hL;have ZW := af hwf;clear hL;have HZ := af hZ;have HH := af h;have HX := af (acD hx hf);have yv := af (acD vH (acD EX RE));have nR := af Fs;clear h hx pX hwf vH BX eO vD Fq RE Fs hD  hZ EX hf wQ;obtain ⟨t, i, p', s, en, nm⟩ := x;unfold dZ zX at *;dsimp only at *;go_enter func198, ntmps198
 go_wp2_with fail
 rw [HZ.out];go_quiet (fail)
 have yw := hlen nq;obtain ⟨W, hW⟩ : ∃ W, Z.drewN nq = W := ⟨_, rfl⟩
 have YI : W.cell? ⟨gs, 0, none⟩ = some (.map (some bm)) := by rw [← hW]; exact c0
 have htW : W.cell? ⟨w.heap.size, 0, none⟩ = some (.int .i64 t) := by rw [← hW]; exact z0
 have hsW : cj W w.heap.size 0 ⟨t, i, p', s, en, nm⟩ := by rw [← hW]; exact od.out
 have Fu : W.heap[w.heap.size + 1]? = some (.cells #[.int .i64 0, .int .i64 0, .int .i64 0, .int .i64 0, .int .i64 0] 64) := by rw [← hW]; exact yv.out.2.2
 have YJ : Below w.heap.size w W := by rw [← hW]; exact yv.out.1.trans (ag Z nq)
 have hzW : W.heap.size = w.heap.size + 2 := by rw [← hW]; exact yv.out.2.1
 have hDW : ez W bm R D := by rw [← hW]; exact HD.out.drewN nq
 rw [HD.out.rd.size, hW] at yw;rw [hW];have nh := af (acD Fu (acD YJ (acD hzW (acD hDW (acD YI hsW)))));clear Fu YJ hW hlen hl Kd hzW hDW z0 z1 z2 z3 z4 z5 c0 hsW;go_wp2_with fail
 refine (PS (tr := t) (by have := ((Sp.aO _).1 HX.out.1).t1; exact this) (by have := ((Sp.aO _).1 HX.out.1).t2; exact this)).mono ?_;rintro e2 w2 ⟨rfl, Qu, aP⟩;obtain ⟨g, hg⟩ : ∃ g, W.heap.size + 1 = g := ⟨_, rfl⟩
 obtain ⟨b, hb⟩ : ∃ b, W.heap.size = b := ⟨_, rfl⟩
 have jD : w.heap.size + 2 < g := by have := nh.out.2.2.1; omega
 have jJ : w.heap.size + 2 ≤ b := by have := nh.out.2.2.1; omega
 rw [hg, hb] at Qu;rw [hg];have abv : Below W.heap.size W w2 := aP;have YK : ez w2.drew bm R D := (nh.out.2.2.2.1.below aP).drewN 1;obtain ⟨w3, D3, dB, fE, NG⟩ := YK.store (x := ⟨t, g, b, []⟩) ZW.out (by simp [maxLen]; have := HL.out; omega);have c2 : w2.cell? ⟨gs, 0, none⟩ = some (.map (some bm)) := (aP.cell (lt_of_cell YI)).trans YI;have t2 : w2.cell? ⟨w.heap.size, 0, none⟩ = some (.int .i64 t) := (aP.cell (lt_of_cell htW)).trans htW;have H2 := af (acD Qu (acD aP (acD fE NG)));clear Qu aP fE NG YK abv hg hb yw hL9 YI htW;dsimp only at dB;go_wp2_with fail
 go_region
 have hbm : bm < w.heap.size := HH.out.lt bm (.inr (.inl rfl));have JY : ak w2 w3 (fun k => k = bm) := by
  have h3 : ak w2.drew w3 (fun k => k = bm) := ak.aV H2.out.2.2.1 _ (fun k e => by injection e with e; exact .inl e.symm);exact ⟨h3.os, h3.tape, h3.output, h3.size, h3.block⟩
 have YL : ak w w3 (fun k => k = bm) := (ak.of_below (nh.out.2.1.trans (H2.out.2.1.mono nh.out.2.1.size)) (fun k => k = bm)).trans JY (fun k hk => .inl hk);have fD : w.heap.size + 2 ≤ w2.heap.size := by have := H2.out.2.1.size; have := nh.out.2.2.1; omega
 have W_ := (JY.block (w.heap.size + 1) (by omega) (by omega)).trans ((H2.out.2.1.block (w.heap.size + 1) (by have := nh.out.2.2.1; omega)).trans nh.out.1);have jH : cj w3 w.heap.size 0 ⟨t, i, p', s, en, nm⟩ := fun k u hk => JY.cell ((H2.out.2.1.cell (lt_of_cell (nh.out.2.2.2.2.2 k u hk))).trans (nh.out.2.2.2.2.2 k u hk)) (by show ¬ w.heap.size = bm; omega);have hf3 : jr w3 g b t [] := H2.out.1.aU JY (by omega) (by omega);have HF3 := af hf3;have H3 := af (acD YL (acD W_ (acD (show w.heap.size + 2 ≤ w3.heap.size by have := JY.size; omega) H2.out.2.2.2)));obtain ⟨z0, z1, z2, z3, z4, z5⟩ := jH.z;clear JY YL fD W_ jH hf3 dB;go_wp2_with fail
 have hA := Gu (HF3.out.below ((acG _ _).alloc (acE _) (.cells #[.int .i64 t, .int .i64 i, .int .i64 p', .int .i64 s, .int .i64 en, .string nm] 30))) (CK w3 ⟨t, i, p', s, en, nm⟩) (by simp) (fun x hx => by
  simp only [ac9, ad_, afd] at hx;subst hx;exact zZ HX.out.1)
 refine hA.mono ?_;clear hA;rintro e5 w5 ⟨wP, Uy, lA⟩;obtain ⟨C, hC⟩ : ∃ C, (bF [] cQ ⟨t, i, p', s, en, nm⟩).2 = C := ⟨_, rfl⟩
 have VX := HX.out.1;obtain rfl : e5 = .returned (.tuple #[.agg #[.int .i64 (C.add : Nat), .int .i64 (C.same : Nat), .int .i64 (C.other : Nat), .int .i64 (C.dw : Nat), .int .i64 (C.full : Nat)], .int .i64 0]) := by
  rw [CH HX.out.1 rfl, hC] at wP;exact wP
 rw [CJ HX.out.1 rfl] at Uy;have HC := af hC;have bK := (acG w3.heap.size w3).alloc (acE _) (.cells #[.int .i64 t, .int .i64 i, .int .i64 p', .int .i64 s, .int .i64 en, .string nm] 30);have P2 : ak w3 w5 (fun k => k = b) := (ak.of_below bK (fun k => k = b)).trans lA (fun k hk => .inl hk);have MY : ak w w5 (fun k => k = bm) := H3.out.1.trans P2 (fun k hk => .inr (by omega));have oY : w5.heap[w.heap.size + 1]? = some (.cells #[.int .i64 0, .int .i64 0, .int .i64 0, .int .i64 0, .int .i64 0] 64) := (P2.block (w.heap.size + 1) (by have := H3.out.2.2.1; omega) (by omega)).trans H3.out.2.1;have Qm := H3.out.2.2.2.aU P2 (by omega);have FW := af (acD MY (acD Uy Qm));have VW : w.heap.size + 1 < w5.heap.size := (acJ.1 oY).1;have aL := (acG w5.heap.size w5).alloc (acE _) (.cells #[.int .i64 (C.add : Nat), .int .i64 (C.same : Nat), .int .i64 (C.other : Nat), .int .i64 (C.dw : Nat), .int .i64 (C.full : Nat)] 64);have w_ := acQ w5 (.cells #[.int .i64 (C.add : Nat), .int .i64 (C.same : Nat), .int .i64 (C.other : Nat), .int .i64 (C.dw : Nat), .int .i64 (C.full : Nat)] 64);have lX := (aL.block (w.heap.size + 1) VW).trans oY;clear wP Uy lA hC MY oY bK P2 Qm;go_upto_region 8 with fail
 obtain ⟨W6, YH⟩ : ∃ W6, w5.alloc (.cells #[.int .i64 (C.add : Nat), .int .i64 (C.same : Nat), .int .i64 (C.other : Nat), .int .i64 (C.dw : Nat), .int .i64 (C.full : Nat)] 64) = W6 := ⟨_, rfl⟩
 rw [YH] at aL w_ lX ⊢;have m0 := acC W6 (w.heap.size + 1) 0 _ 64 (0, 0) lX;have mf0 := acI W6 (w.heap.size + 1) 0 _ 64 lX;have n0 := acC W6 w5.heap.size 0 _ 64 (0, 0) w_;have m1 := acC W6 (w.heap.size + 1) 1 _ 64 (0, 0) lX;have mf1 := acI W6 (w.heap.size + 1) 1 _ 64 lX;have n1 := acC W6 w5.heap.size 1 _ 64 (0, 0) w_;have m2 := acC W6 (w.heap.size + 1) 2 _ 64 (0, 0) lX;have mf2 := acI W6 (w.heap.size + 1) 2 _ 64 lX;have n2 := acC W6 w5.heap.size 2 _ 64 (0, 0) w_;have m3 := acC W6 (w.heap.size + 1) 3 _ 64 (0, 0) lX;have mf3 := acI W6 (w.heap.size + 1) 3 _ 64 lX;have n3 := acC W6 w5.heap.size 3 _ 64 (0, 0) w_;have m4 := acC W6 (w.heap.size + 1) 4 _ 64 (0, 0) lX;have mf4 := acI W6 (w.heap.size + 1) 4 _ 64 lX;have n4 := acC W6 w5.heap.size 4 _ 64 (0, 0) w_;simp only [afg, aeh, ad2] at m0 m1 m2 m3 m4 n0 n1 n2 n3 n4;have FR := af (acD lX (acD w_ aL));clear lX w_ aL YH;go_wp2;refine ac0 (v := iJ C) (by
  have q5 := dq FR.out.1 (.int .i64 (C.add : Nat)) (.int .i64 (C.same : Nat)) (.int .i64 (C.other : Nat)) (.int .i64 (C.dw : Nat)) (.int .i64 (C.full : Nat));generalize (((((W6.setCell ⟨w.heap.size + 1, 0, none⟩ (.int .i64 (C.add : Nat))).setCell ⟨w.heap.size + 1, 1, none⟩ (.int .i64 (C.same : Nat))).setCell ⟨w.heap.size + 1, 2, none⟩ (.int .i64 (C.other : Nat))).setCell ⟨w.heap.size + 1, 3, none⟩ (.int .i64 (C.dw : Nat))).setCell ⟨w.heap.size + 1, 4, none⟩ (.int .i64 (C.full : Nat))) = W9 at q5 ⊢;have m0 := acC W9 (w.heap.size + 1) 0 _ 64 (0, 0) q5;have m1 := acC W9 (w.heap.size + 1) 1 _ 64 (0, 0) q5;have m2 := acC W9 (w.heap.size + 1) 2 _ 64 (0, 0) q5;have m3 := acC W9 (w.heap.size + 1) 3 _ 64 (0, 0) q5;have m4 := acC W9 (w.heap.size + 1) 4 _ 64 (0, 0) q5;have kQ : w.heap.size + 1 < W9.heap.size := by have := (acJ.1 q5).1; exact this
  clear q5;unfold iJ;simp at m0 m1 m2 m3 m4;simp [results, results198, go_sem, m0, m1, m2, m3, m4, kQ]) rfl ⟨by rw [CL HX.out.2 HL.out, HC.out], aH kR R ⟨t, g, b, (bF [] cQ ⟨t, i, p', s, en, nm⟩).1⟩, ?_⟩
 have lO := bN (FW.out.1.cC FR.out.2.2) (.inr (by omega) : w.heap.size + 1 = bm ∨ w.heap.size ≤ w.heap.size + 1) (.int .i64 (C.add : Nat)) (.int .i64 (C.same : Nat)) (.int .i64 (C.other : Nat)) (.int .i64 (C.dw : Nat)) (.int .i64 (C.full : Nat));have hd9 := bN (ak.of_below FR.out.2.2 (fun k => k = w.heap.size + 1)) (.inl rfl) (.int .i64 (C.add : Nat)) (.int .i64 (C.same : Nat)) (.int .i64 (C.other : Nat)) (.int .i64 (C.dw : Nat)) (.int .i64 (C.full : Nat));have hf9 := FW.out.2.1.aU hd9 (by omega) (by omega);have WE := FW.out.2.2.aU hd9 (by omega);have aT := sK HH.out.ok HX.out.1;rw [CL HX.out.2 HL.out] at aT ⊢;dsimp only at aT ⊢;refine ⟨HH.out.abu (g0 := 0) HX.out.2 hf9 (by omega) (by omega) lO WE aT, ?_, lO.mono (fun k hk => .inl hk), fun k hk => ?_⟩
 ·rw [fP Tr.pl nZ];rfl
 ·rcases Gw HH.out.rises hk with h1 | h1 | h1
  ·exact .inl h1
  ·exact .inr (by rw [h1]; show w.heap.size ≤ g; omega)
  ·exact .inr (by rw [h1]; show w.heap.size ≤ b; omega)
theorem M0 {w : World} {gs bm : Nat} {R : List Tr} {x : Sp} (h : bR w gs bm R) (hx : x.ok = true) : Calls prog 198 #[.pointer (some ⟨gs, 0, none⟩), dZ x] w (mM w gs bm R x) := by
 cases hf : bj kR R x.t with
 | some y => exact Ju h hx hf
 | none =>
  by_cases hL : 32 ≤ R.length
  ·exact Jv h hx hf hL
  ·exact MZ h hx hf hL
open Go.RowKit
section
variable {w w' : World} {gs bm : Nat} {R R' : List Tr}
theorem gC.sets {w2 : World} {S' : List Pl} {r : Nat} (h : gC w w' gs bm R R' S') (hc : ak w' w2 fun k => k = r) (hr : ¬ mT gs bm R' r) (hw : w.heap.size ≤ r) : gC w w2 gs bm R R' S' :=
 ⟨h.is.aU hc fun k hk e => hr (e ▸ hk), h.pl, h.aU.trans hc fun k hk => .inr (hk ▸ hw), h.new⟩
theorem bD.keep (h : bR w gs bm R) (hc : ak w w' (vm bm R)) {g : Nat} {c : Cn} (hn : bD w g c) : bD w' g c :=
 have hb : w'.heap[g]? = w.heap[g]? := hc.block g (lt_of_cell hn.c0) (h.dD hn.c0)
 ⟨(adi hb).trans hn.c0, (adi hb).trans hn.c1, (adi hb).trans hn.c2, (adi hb).trans hn.c3, (adi hb).trans hn.c4, fun k hk => (adR (a := ⟨g, k, none⟩) hb).trans (hn.fr k hk)⟩
theorem CM (h : bR w gs bm R) (hc : ak w w' (vm bm R)) {g : Nat} {cs : Array Value} {ty : TypeId} {m : Nat × Nat} (hr : w.heap[g]? = some (.cells cs ty m)) {u : Value} (hu : w.cell? ⟨g, 0, none⟩ = some u) : w'.heap[g]? = some (.cells cs ty m) :=
 (hc.block g (acJ.1 hr).1 (h.dD hu)).trans hr
theorem bD.p0 {g : Nat} {c : Cn} (h : bD w g c) (n : Nat) : bD (w.setCell ⟨g, 0, none⟩ (.int .i64 (n : Nat))) g { c with add := n } :=
 ⟨by rw [adB (h := h.c0)], by rw [acM _ _ _ _ (by simp)]; exact h.c1, by rw [acM _ _ _ _ (by simp)]; exact h.c2, by rw [acM _ _ _ _ (by simp)]; exact h.c3, by rw [acM _ _ _ _ (by simp)]; exact h.c4, fun k hk => by rw [adN]; exact h.fr k hk⟩
theorem bD.p1 {g : Nat} {c : Cn} (h : bD w g c) (n : Nat) : bD (w.setCell ⟨g, 1, none⟩ (.int .i64 (n : Nat))) g { c with same := n } :=
 ⟨by rw [acM _ _ _ _ (by simp)]; exact h.c0, by rw [adB (h := h.c1)], by rw [acM _ _ _ _ (by simp)]; exact h.c2, by rw [acM _ _ _ _ (by simp)]; exact h.c3, by rw [acM _ _ _ _ (by simp)]; exact h.c4, fun k hk => by rw [adN]; exact h.fr k hk⟩
theorem bD.p2 {g : Nat} {c : Cn} (h : bD w g c) (n : Nat) : bD (w.setCell ⟨g, 2, none⟩ (.int .i64 (n : Nat))) g { c with other := n } :=
 ⟨by rw [acM _ _ _ _ (by simp)]; exact h.c0, by rw [acM _ _ _ _ (by simp)]; exact h.c1, by rw [adB (h := h.c2)], by rw [acM _ _ _ _ (by simp)]; exact h.c3, by rw [acM _ _ _ _ (by simp)]; exact h.c4, fun k hk => by rw [adN]; exact h.fr k hk⟩
theorem bD.p3 {g : Nat} {c : Cn} (h : bD w g c) (n : Nat) : bD (w.setCell ⟨g, 3, none⟩ (.int .i64 (n : Nat))) g { c with dw := n } :=
 ⟨by rw [acM _ _ _ _ (by simp)]; exact h.c0, by rw [acM _ _ _ _ (by simp)]; exact h.c1, by rw [acM _ _ _ _ (by simp)]; exact h.c2, by rw [adB (h := h.c3)], by rw [acM _ _ _ _ (by simp)]; exact h.c4, fun k hk => by rw [adN]; exact h.fr k hk⟩
theorem bD.p4 {g : Nat} {c : Cn} (h : bD w g c) (n : Nat) : bD (w.setCell ⟨g, 4, none⟩ (.int .i64 (n : Nat))) g { c with full := n } :=
 ⟨by rw [acM _ _ _ _ (by simp)]; exact h.c0, by rw [acM _ _ _ _ (by simp)]; exact h.c1, by rw [acM _ _ _ _ (by simp)]; exact h.c2, by rw [acM _ _ _ _ (by simp)]; exact h.c3, by rw [adB (h := h.c4)], fun k hk => by rw [adN]; exact h.fr k hk⟩
theorem bD.OC {g : Nat} {c : Cn} (h : bD w g c) (d : Cn) : bD (((((w.setCell ⟨g, 0, none⟩ (.int .i64 (d.add : Nat))).setCell ⟨g, 1, none⟩ (.int .i64 (d.same : Nat))).setCell ⟨g, 2, none⟩ (.int .i64 (d.other : Nat))).setCell ⟨g, 3, none⟩ (.int .i64 (d.dw : Nat))).setCell ⟨g, 4, none⟩ (.int .i64 (d.full : Nat))) g d := ((((h.p0 d.add).p1 d.same).p2 d.other).p3 d.dw).p4 d.full
end
def FP (w : World) (gs bm : Nat) (R : List Tr) (l : List Sp) (e : Ending) (w' : World) : Prop := e = .returned (.tuple #[iJ (nF (R.map Tr.pl) l), .int .i64 (Eg l)]) ∧ ∃ R', gC w w' gs bm R R' (iH (R.map Tr.pl) l)
theorem rm {w : World} {gs bm : Nat} {R : List Tr} {l : List Sp} {v : Value} (h : bR w gs bm R) (hv : iY w v l) (hl : l.length ≤ 100000) (im : ∀ x ∈ l, x.n.size ≤ 1100000) :
  Calls prog 181 #[.pointer (some ⟨gs, 0, none⟩), v] w (FP w gs bm R l) := by
 obtain ⟨p, n, c, rfl⟩ := hv.sl;have hn := hv.len.1;have zy : n ≤ 100000 := by omega
 have wu := (acG w.heap.size w).alloc (acE _) (.cells #[.int .i64 0, .int .i64 0, .int .i64 0, .int .i64 0, .int .i64 0] 64);have aM := acQ w (.cells #[.int .i64 0, .int .i64 0, .int .i64 0, .int .i64 0, .int .i64 0] 64);have SR := af (kL (h.below wu).c0);have HV := af hv;have HN := af hn;have Dc := af im;have HF := af h;have oN := af wu;have ib := af aM;clear hv hn im h wu aM hl;go_enter func181, ntmps181
 go_wp2_with fail
 refine SR.out.mono ?_;rintro e1 w1 ⟨rfl, q0, rfl⟩;obtain ⟨X, hX⟩ : ∃ X, (w.alloc (.cells #[.int .i64 0, .int .i64 0, .int .i64 0, .int .i64 0, .int .i64 0] 64)).drewN q0 = X := ⟨_, rfl⟩
 have aS : Hid (Below w.heap.size w X) := af (by rw [← hX]; exact oN.out.trans (ag _ q0));have kB : Hid (X.heap[w.heap.size]? = some (.cells #[.int .i64 0, .int .i64 0, .int .i64 0, .int .i64 0, .int .i64 0] 64)) := af (by rw [← hX]; exact ib.out);have BN : X.heap.size = w.heap.size + 1 := by rw [← hX]; simp
 have il := af BN;rw [hX];clear hX BN oN ib SR;go_wp2_with fail
 go_loopw [7, 8, 18] (fun _ _ ix wr => ∃ k : Nat, k ≤ n ∧ ix = .int .i64 k ∧ Hid (Below X.heap.size X wr ∧ (l.take k).all Sp.ok = true)) (fun _ _ ix _ => n - (intOf ix).toNat)
 case atStart => exact ⟨0, by omega, rfl, af ⟨acG _ _, rfl⟩⟩
 case round =>
  obtain ⟨k, hk, rfl, HR⟩ := hrel;by_cases bd : (k : Int) < (n : Int)
  ·obtain ⟨gv, ov, rfl, hx⟩ := HV.out.at_ (by omega);obtain ⟨x, dC⟩ : ∃ x, l[k]? = some x := ⟨_, acF (by have := HN.out; omega)⟩
   have jJ : Below w.heap.size w wr := aS.out.trans (HR.out.1.mono (by have := il.out; omega));have aG := (hx k x dC).below jJ;obtain ⟨oo, iu⟩ : ∃ oo, ov + k * 6 = oo := ⟨_, rfl⟩
   rw [iu] at aG;have z0 := aG.c0;have z1 := aG.c1;have z2 := aG.c2;have z3 := aG.c3;have z4 := aG.c4;have z5 := aG.c5;have jC := af (kq x (Dc.out x (acS dC)));have bg := az wr x;obtain ⟨Y, hY⟩ : ∃ Y, wr.alloc (.cells #[.int .i64 x.t, .int .i64 x.i, .int .i64 x.p, .int .i64 x.s, .int .i64 x.e, .string x.n] 30) = Y := ⟨_, rfl⟩
   have fF : Below wr.heap.size wr Y := by rw [← hY]; exact (acG _ _).alloc (acE _) _
   rw [hY] at bg;obtain ⟨y0, y1, y2, y3, y4, y5⟩ := bg.z;have F6 := af hY;have vl := af dC;have eI : Hid (Below X.heap.size X Y) := af (HR.out.1.trans (fF.mono HR.out.1.size));clear hx dC aG bg fF hY jJ;obtain ⟨t, i, p', s, en, nm⟩ := x;dsimp only at *;unfold dZ at *;dsimp only at *;go_wp2_with fail
   rw [F6.out];refine (jC.out _).mono ?_;rintro e7 w7 ⟨rfl, cZ⟩;have lQ : Hid (Below X.heap.size X w7) := af (eI.out.trans (cZ.mono eI.out.size));clear cZ jC;by_cases aT : Sp.ok ⟨t, i, p', s, en, nm⟩ = true
   ·rw [acW aT];have fh := af aT;clear aT;go_wp2;go_roundw;case rel =>
     refine ⟨k + 1, by omega, by go_num, af ⟨lQ.out, ?_⟩⟩;have h1 : l.take (k + 1) = l.take k ++ [⟨t, i, p', s, en, nm⟩] := by rw [ac5, vl.out]; rfl
     rw [h1, aeR, HR.out.2];simp only [aeI, List.all_nil, Bool.and_true, adY];exact fh.out
    case measure => simp [intOf]; omega
   ·have lq : Hid (¬ l.all Sp.ok = true) := af (fun cO => aT (adl.1 cO _ (acS vl.out)));rw [acO aT];clear aT;have eR : w7.heap[w.heap.size]? = some (.cells #[.int .i64 0, .int .i64 0, .int .i64 0, .int .i64 0, .int .i64 0] 64) := ((lQ.out.block w.heap.size (by have := il.out; omega)).trans kB.out)
    have qy : Below w.heap.size w w7 := aS.out.trans (lQ.out.mono (by have := il.out; omega));have Vy := acC w7 w.heap.size 0 _ 64 (0, 0) eR;have abw := acI w7 w.heap.size 0 _ 64 eR;have Vz := acC w7 w.heap.size 1 _ 64 (0, 0) eR;have abx := acI w7 w.heap.size 1 _ 64 eR;have VA := acC w7 w.heap.size 2 _ 64 (0, 0) eR;have aby := acI w7 w.heap.size 2 _ 64 eR;have VC := acC w7 w.heap.size 3 _ 64 (0, 0) eR;have abz := acI w7 w.heap.size 3 _ 64 eR;have VD := acC w7 w.heap.size 4 _ 64 (0, 0) eR;have abA := acI w7 w.heap.size 4 _ 64 eR;have nh := af eR;have wK := af qy;clear eR qy;go_wp2;refine ac0 (v := .tuple #[iJ cQ, .int .i64 30]) (by
     have q5 := dq nh.out (.int .i64 0) (.int .i64 0) (.int .i64 0) (.int .i64 0) (.int .i64 0);generalize (((((w7.setCell ⟨w.heap.size, 0, none⟩ (.int .i64 0)).setCell ⟨w.heap.size, 1, none⟩ (.int .i64 0)).setCell ⟨w.heap.size, 2, none⟩ (.int .i64 0)).setCell ⟨w.heap.size, 3, none⟩ (.int .i64 0)).setCell ⟨w.heap.size, 4, none⟩ (.int .i64 0)) = W9 at q5 ⊢;have m0 := acC W9 w.heap.size 0 _ 64 (0, 0) q5;have m1 := acC W9 w.heap.size 1 _ 64 (0, 0) q5;have m2 := acC W9 w.heap.size 2 _ 64 (0, 0) q5;have m3 := acC W9 w.heap.size 3 _ 64 (0, 0) q5;have m4 := acC W9 w.heap.size 4 _ 64 (0, 0) q5;have kQ : w.heap.size < W9.heap.size := by have := (acJ.1 q5).1; exact this
     clear q5;unfold iJ;simp at m0 m1 m2 m3 m4;simp [results, results181, go_sem, m0, m1, m2, m3, m4, kQ, cQ]) rfl ⟨by unfold nF Eg; rw [acO lq.out, acO lq.out], R, ?_⟩
    have lO := bN (ak.of_below wK.out (fun _ => False)) (.inr (acE w.heap.size)) (.int .i64 0) (.int .i64 0) (.int .i64 0) (.int .i64 0) (.int .i64 0);rw [iH, acO lq.out];exact ⟨HF.out.aU lO (fun _ _ h => h), rfl, lO.mono (fun k h => h.elim), fun k hk => .inl hk⟩
  ·have EJ : k = n := by omega
   subst EJ;have cO : l.all Sp.ok = true := by
    have := HR.out.2
    rwa [acY (by have := HN.out; omega)] at this
   have BO : Below w.heap.size w wr := aS.out.trans (HR.out.1.mono (by have := il.out; omega));have MI : w.heap.size < wr.heap.size := by have := HR.out.1.size; have := il.out; omega
   have vH : Below wr.heap.size wr (wr.alloc (.cells #[.int .i64 0, .int .i64 0, .int .i64 0, .int .i64 0, .int .i64 0] 64)) := (acG _ _).alloc (acE _) _;have IZ := tT wr;have wQ : Below w.heap.size w (wr.alloc (.cells #[.int .i64 0, .int .i64 0, .int .i64 0, .int .i64 0, .int .i64 0] 64)) := BO.trans (vH.mono (by omega));have nV : (wr.alloc (.cells #[.int .i64 0, .int .i64 0, .int .i64 0, .int .i64 0, .int .i64 0] 64)).heap[w.heap.size]? = some (.cells #[.int .i64 0, .int .i64 0, .int .i64 0, .int .i64 0, .int .i64 0] 64 (0, 0)) :=
    (vH.block w.heap.size MI).trans ((HR.out.1.block w.heap.size (by have := il.out; omega)).trans kB.out)
   have Yu : (wr.alloc (.cells #[.int .i64 0, .int .i64 0, .int .i64 0, .int .i64 0, .int .i64 0] 64)).heap.size = wr.heap.size + 1 := by simp
   have lu := af cO;clear cO BO vH HR;go_wp2_with fail
   obtain ⟨Z, hZ⟩ : ∃ Z, wr.alloc (.cells #[.int .i64 0, .int .i64 0, .int .i64 0, .int .i64 0, .int .i64 0] 64) = Z := ⟨_, rfl⟩
   obtain ⟨gc, GJ⟩ : ∃ gc, wr.heap.size = gc := ⟨_, rfl⟩
   rw [hZ] at IZ wQ nV Yu;rw [GJ] at IZ MI Yu;rw [hZ, GJ];have HZ := af (acD IZ (acD wQ (acD nV (HF.out.below wQ))));clear hZ GJ IZ wQ nV;go_loopw [11, 31] (fun _ ix wz => ∃ j : Nat, j ≤ k ∧ ix = .int .i64 j ∧ Hid (∃ R', gC w wz gs bm R R' (puts (R.map Tr.pl) (l.take j)).1 ∧ (¬ mT gs bm R' gc ∧ ¬ mT gs bm R' w.heap.size) ∧ bD wz gc (puts (R.map Tr.pl) (l.take j)).2 ∧ wz.heap[w.heap.size]? = some (.cells #[.int .i64 0, .int .i64 0, .int .i64 0, .int .i64 0, .int .i64 0] 64 (0, 0)))) (fun _ ix _ => k - (intOf ix).toNat)
   case atStart => exact ⟨0, by omega, rfl, af ⟨R, gC.of_below HF.out HZ.out.2.1, ⟨fun hk => by have := HF.out.lt _ hk; omega, fun hk => by have := HF.out.lt _ hk; omega⟩, HZ.out.1, HZ.out.2.2.1⟩⟩
   case round =>
    obtain ⟨j, hj, rfl, HR⟩ := hrel;obtain ⟨R', eZ, hnj, YM, Gx⟩ := HR.out;by_cases oq : (j : Int) < (k : Int)
    ·obtain ⟨gv, ov, rfl, hx⟩ := HV.out.at_ (by omega);obtain ⟨x, dC⟩ : ∃ x, l[j]? = some x := ⟨_, acF (by have := HN.out; omega)⟩
     have aG : cj wr gv (ov + j * 6) x := fun i u hu => HF.out.keep eZ.aU (hx j x dC i u hu);obtain ⟨oo, iu⟩ : ∃ oo, ov + j * 6 = oo := ⟨_, rfl⟩
     rw [iu] at aG;have z0 := aG.c0;have z1 := aG.c1;have z2 := aG.c2;have z3 := aG.c3;have z4 := aG.c4;have z5 := aG.c5;have lk : l.take (j + 1) = l.take j ++ [x] := by rw [ac5, dC]; rfl
     have j_ : (puts (R.map Tr.pl) (l.take j)).2.sum ≤ 1100000 := by
      rw [tY, ac6];omega
     have MJ := adl.1 lu.out x (acS dC);have abB := lt_of_cell YM.c0;dsimp only at abB;have bg := az wr x;obtain ⟨Y, hY⟩ : ∃ Y, wr.alloc (.cells #[.int .i64 x.t, .int .i64 x.i, .int .i64 x.p, .int .i64 x.s, .int .i64 x.e, .string x.n] 30) = Y := ⟨_, rfl⟩
     have fF : Below wr.heap.size wr Y := by rw [← hY]; exact (acG _ _).alloc (acE _) _
     rw [hY] at bg;have df := YM.below fF;have lN := (fF.block w.heap.size (by omega)).trans Gx;have mS := af (eZ.below fF);have HNJ := af hnj;obtain ⟨C, hC⟩ : ∃ C, (puts (R.map Tr.pl) (l.take j)).2 = C := ⟨_, rfl⟩
     obtain ⟨S, hS⟩ : ∃ S, (puts (R.map Tr.pl) (l.take j)).1 = S := ⟨_, rfl⟩
     rw [hC] at df j_;rw [hS] at mS;have YN : Hid (∀ V, Below Y.heap.size Y V → Calls prog 198 #[.pointer (some ⟨gs, 0, none⟩), dZ x] V (mM V gs bm R' x)) := af fun V hV => M0 (mS.out.is.below hV) MJ;have LM : Hid (∀ W (C1 : Cn), C1.sum ≤ 1100000 → Calls prog 197 #[.agg #[.int .i64 (C.add : Nat), .int .i64 (C.same : Nat), .int .i64 (C.other : Nat), .int .i64 (C.dw : Nat), .int .i64 (C.full : Nat)], .agg #[.int .i64 (C1.add : Nat), .int .i64 (C1.same : Nat), .int .i64 (C1.other : Nat), .int .i64 (C1.dw : Nat), .int .i64 (C1.full : Nat)]] W fun e w' => e = .returned (iJ (C.plus C1)) ∧ Below W.heap.size W w') := af fun W C1 h1 => P1 W C C1 j_ h1;obtain ⟨y0, y1, y2, y3, y4, y5⟩ := bg.z;have Ao := af df;obtain ⟨b0, b1, b2, b3, b4, bf⟩ := df;have F6 := af hY;have iB := af lk;have HY := af (acD hC (acD hS (acD lN (acD bg j_))));clear hx dC aG lk j_ MJ bg hY fF hC hS lN eZ YM Gx hnj;obtain ⟨t, i, p', s, en, nm⟩ := x;dsimp only at *;unfold dZ at *;dsimp only at *;go_wp2_with fail
     rw [F6.out];have VY : Hid (Y.cell? ⟨w.heap.size, 0, none⟩ = some (.int .i64 0)) := af (acC Y w.heap.size 0 _ 64 (0, 0) HY.out.2.2.1);go_region_law
      (first
       | (go_simp; go_at_call 198; refine (YN.out _ (by first | exact acG _ _ | exact ag _ 1)).mono ?_; intro e7 w7 hp7; obtain ⟨rfl, R7, h7⟩ := hp7; rw [mS.out.pl] at h7 ⊢; have H7 : Hid (gC w w7 gs bm R R7 (cW S ⟨t, i, p', s, en, nm⟩).1 ∧ bD w7 gc C ∧ w7.heap[w.heap.size]? = some (.cells #[.int .i64 0, .int .i64 0, .int .i64 0, .int .i64 0, .int .i64 0] 64 (0, 0))) := af (by first | exact ⟨gC.trans HF.out mS.out h7, bD.keep mS.out.is h7.aU Ao.out, CM mS.out.is h7.aU HY.out.2.2.1 VY.out⟩ | exact ⟨gC.trans HF.out (mS.out.below (ag Y 1)) h7, bD.keep (mS.out.is.drewN 1) h7.aU (Ao.out.below (ag Y 1)), CM (mS.out.is.drewN 1) h7.aU (show (Y.drewN 1).heap[w.heap.size]? = _ from HY.out.2.2.1) VY.out⟩); have HN7 : Hid (¬ mT gs bm R7 gc ∧ ¬ mT gs bm R7 w.heap.size) := af (by have eQ := lt_of_cell Ao.out.c0; have dO := (acJ.1 HY.out.2.2.1).1; dsimp only at eQ; exact ⟨fun hk => by (rcases h7.new _ hk with h1 | h1); exact HNJ.out.1 h1; have fE : Y.heap.size ≤ gc := h1; omega, fun hk => by (rcases h7.new _ hk with h1 | h1); exact HNJ.out.2 h1; have fE : Y.heap.size ≤ w.heap.size := h1; omega⟩); have Fg := H7.out.2.1; obtain ⟨C1, VF⟩ : ∃ C1, (cW S ⟨t, i, p', s, en, nm⟩).2 = C1 := ⟨_, rfl⟩; rw [VF]; have rW := af VF; unfold iJ; have n0 := Fg.c0; have nf0 := Fg.fr 0 (by omega); have n1 := Fg.c1; have nf1 := Fg.fr 1 (by omega); have n2 := Fg.c2; have nf2 := Fg.fr 2 (by omega); have n3 := Fg.c3; have nf3 := Fg.fr 3 (by omega); have n4 := Fg.c4; have nf4 := Fg.fr 4 (by omega); clear Fg h7 VF)
       | (go_simp; go_at_call 197; refine (LM.out _ C1 (by rw [← rW.out, pB]; omega)).mono ?_; rintro e8 w8 ⟨rfl, kn⟩; have H8 := af (acD (H7.out.1.below (by first | exact kn | exact (ag w7 1).trans kn)) (acD (H7.out.2.1.below (by first | exact kn | exact (ag w7 1).trans kn)) (((show Below w7.heap.size w7 w8 by first | exact kn | exact (ag w7 1).trans kn).block w.heap.size (acJ.1 H7.out.2.2).1).trans H7.out.2.2))); have yV := H8.out.2.1; unfold iJ Cn.plus; dsimp only; have r0 := yV.c0; have rf0 := yV.fr 0 (by omega); have r1 := yV.c1; have rf1 := yV.fr 1 (by omega); have r2 := yV.c2; have rf2 := yV.fr 2 (by omega); have r3 := yV.c3; have rf3 := yV.fr 3 (by omega); have r4 := yV.c4; have rf4 := yV.fr 4 (by omega); clear yV kn))
     all_goals
      have lC := bD.OC H8.out.2.1 (C.plus C1);simp only [Cn.plus, aeS] at lC;have lO := bN (ak.refl w8 (fun k => k = gc)) (.inl rfl) (.int .i64 ((C.add : Int) + C1.add)) (.int .i64 ((C.same : Int) + C1.same)) (.int .i64 ((C.other : Int) + C1.other)) (.int .i64 ((C.dw : Int) + C1.dw)) (.int .i64 ((C.full : Int) + C1.full));have H9 : Hid (∃ R'', gC w ((((((w8.setCell ⟨gc, 0, none⟩ (.int .i64 ((C.add : Int) + C1.add))).setCell ⟨gc, 1, none⟩ (.int .i64 ((C.same : Int) + C1.same))).setCell ⟨gc, 2, none⟩ (.int .i64 ((C.other : Int) + C1.other))).setCell ⟨gc, 3, none⟩ (.int .i64 ((C.dw : Int) + C1.dw))).setCell ⟨gc, 4, none⟩ (.int .i64 ((C.full : Int) + C1.full)))) gs bm R R'' (puts (R.map Tr.pl) (l.take (j + 1))).1 ∧ (¬ mT gs bm R'' gc ∧ ¬ mT gs bm R'' w.heap.size) ∧ bD ((((((w8.setCell ⟨gc, 0, none⟩ (.int .i64 ((C.add : Int) + C1.add))).setCell ⟨gc, 1, none⟩ (.int .i64 ((C.same : Int) + C1.same))).setCell ⟨gc, 2, none⟩ (.int .i64 ((C.other : Int) + C1.other))).setCell ⟨gc, 3, none⟩ (.int .i64 ((C.dw : Int) + C1.dw))).setCell ⟨gc, 4, none⟩ (.int .i64 ((C.full : Int) + C1.full)))) gc (puts (R.map Tr.pl) (l.take (j + 1))).2 ∧ ((((((w8.setCell ⟨gc, 0, none⟩ (.int .i64 ((C.add : Int) + C1.add))).setCell ⟨gc, 1, none⟩ (.int .i64 ((C.same : Int) + C1.same))).setCell ⟨gc, 2, none⟩ (.int .i64 ((C.other : Int) + C1.other))).setCell ⟨gc, 3, none⟩ (.int .i64 ((C.dw : Int) + C1.dw))).setCell ⟨gc, 4, none⟩ (.int .i64 ((C.full : Int) + C1.full)))).heap[w.heap.size]? = some (.cells #[.int .i64 0, .int .i64 0, .int .i64 0, .int .i64 0, .int .i64 0] 64 (0, 0))) := af (by
       rw [iB.out, kC, HY.out.1, HY.out.2.1];dsimp only;rw [rW.out];refine ⟨R7, gC.sets H8.out.1 lO HN7.out.1 (by omega), HN7.out, lC, ?_⟩;exact (lO.block w.heap.size (acJ.1 H8.out.2.2).1 (by omega)).trans H8.out.2.2)
      clear lC lO;go_wp2;go_roundw;case rel => exact ⟨j + 1, by omega, by go_num, H9⟩
      case measure => simp [intOf]; omega
    ·have Tk : j = k := by omega
     subst Tk;have Hf : l.take j = l := acY (by have := HN.out; omega);rw [Hf] at eZ YM;have mS := af (show gC w wr gs bm R R' (puts (R.map Tr.pl) l).1 from eZ);have Qq := af hnj.2;obtain ⟨k0, k1, k2, k3, k4, kf⟩ := YM;have Vy := acC wr w.heap.size 0 _ 64 (0, 0) Gx;have abw := acI wr w.heap.size 0 _ 64 Gx;have Vz := acC wr w.heap.size 1 _ 64 (0, 0) Gx;have abx := acI wr w.heap.size 1 _ 64 Gx;have VA := acC wr w.heap.size 2 _ 64 (0, 0) Gx;have aby := acI wr w.heap.size 2 _ 64 Gx;have VC := acC wr w.heap.size 3 _ 64 (0, 0) Gx;have abz := acI wr w.heap.size 3 _ 64 Gx;have VD := acC wr w.heap.size 4 _ 64 (0, 0) Gx;have abA := acI wr w.heap.size 4 _ 64 Gx;obtain ⟨C, hC⟩ : ∃ C, (puts (R.map Tr.pl) l).2 = C := ⟨_, rfl⟩
     rw [hC] at k0 k1 k2 k3 k4;have HC := af hC;have nh := af Gx;clear Hf HR Gx hnj eZ hC;go_wp2;refine ac0 (v := .tuple #[iJ C, .int .i64 0]) (by
      have q5 := dq nh.out (.int .i64 (C.add : Nat)) (.int .i64 (C.same : Nat)) (.int .i64 (C.other : Nat)) (.int .i64 (C.dw : Nat)) (.int .i64 (C.full : Nat));generalize (((((wr.setCell ⟨w.heap.size, 0, none⟩ (.int .i64 (C.add : Nat))).setCell ⟨w.heap.size, 1, none⟩ (.int .i64 (C.same : Nat))).setCell ⟨w.heap.size, 2, none⟩ (.int .i64 (C.other : Nat))).setCell ⟨w.heap.size, 3, none⟩ (.int .i64 (C.dw : Nat))).setCell ⟨w.heap.size, 4, none⟩ (.int .i64 (C.full : Nat))) = W9 at q5 ⊢;have m0 := acC W9 w.heap.size 0 _ 64 (0, 0) q5;have m1 := acC W9 w.heap.size 1 _ 64 (0, 0) q5;have m2 := acC W9 w.heap.size 2 _ 64 (0, 0) q5;have m3 := acC W9 w.heap.size 3 _ 64 (0, 0) q5;have m4 := acC W9 w.heap.size 4 _ 64 (0, 0) q5;have kQ : w.heap.size < W9.heap.size := by have := (acJ.1 q5).1; exact this
      clear q5;unfold iJ;simp at m0 m1 m2 m3 m4;simp [results, results181, go_sem, m0, m1, m2, m3, m4, kQ, cQ]) rfl ⟨by unfold nF Eg; rw [acW lu.out, acW lu.out, HC.out], R', ?_⟩
     have lO := bN (ak.refl wr (fun k => k = w.heap.size)) (.inl rfl) (.int .i64 (C.add : Nat)) (.int .i64 (C.same : Nat)) (.int .i64 (C.other : Nat)) (.int .i64 (C.dw : Nat)) (.int .i64 (C.full : Nat));rw [iH, acW lu.out];exact gC.sets mS.out lO Qq.out (acE _)
open Go.RowKit
theorem M3 {key : Value} {kl : Lit} (h : keyOf prog 3 key = some kl) : ∃ x : Int, key = .int .i64 x := pN h
theorem MX.came {D : DataW Value} {R : List Tr} (h : MX D R) {k : Int} {a : Option Addr} {kl : Lit} {y : DataW Value × List MemPlace}
  (hk : keyOf prog 3 (.int .i64 k) = some kl) (hv : n_ (.pointer a) = some y) (aG : ∀ zd, D.atKey kl zd = y.1) : ∃ x, x ∈ R ∧ k = x.t ∧ kl = .int .i64 x.t ∧ a = some ⟨x.g, 0, none⟩ := by
 obtain ⟨k', e, J7, hwf⟩ := Maps.keyOf_int_inv aee hk;injection e with _ e;subst e;subst J7;have hh := Maps.has_true_of_atKey aG;rw [h.keys] at hh;obtain ⟨x, hx⟩ := adG.1 hh;have e1 := h.vals _ x hx .nil;rw [aG, (yl hv).2] at e1;injection e1 with e1;injection e1 with e1;obtain ⟨h1, h2⟩ := fR hx;exact ⟨x, h1, h2.symm, by rw [show x.t = k from h2], e1⟩
theorem MX.del {D : DataW Value} {R : List Tr} (h : MX D R) (ht : Maps.Tidy D) {x : Tr} (hx : x ∈ R) : MX (D.del (.int .i64 x.t)) (R.filter fun y => decide (y.t ≠ x.t)) := by
 have hf : bj kR R x.t = some x := gR h.rises.ids hx;refine ⟨?_, fun k => ?_, fun k y hy => ?_, h.rises.sub aeK⟩
 ·have h1 := Maps.size_del (k := .int .i64 x.t) ht;rw [h.keys, hf, h.size] at h1;have h2 : (R.filter fun y => decide (y.t ≠ x.t)).length + 1 = R.length := rN h.rises hx;simp at h1;omega
 ·rw [rM h.rises.ids];by_cases e : k = x.t
  ·subst e;rw [Maps.has_del_same, hf];simp [aef]
  ·rw [Maps.has_del_other (fun h => e (by injection h)), h.keys];cases hk : bj kR R k with
   | none => rfl
   | some y =>
    have : y.t = k := (fR hk).2;simp [this, e, aef]
 ·rw [rM h.rises.ids] at hy;intro z;have aN : k ≠ x.t := by
   intro e;subst e;rw [hf, aef] at hy;simp at hy
  rw [Maps.atKey_del_other (fun h => aN (by injection h))];refine h.vals k y ?_ z;cases hk : bj kR R k with
  | none => rw [hk] at hy; simp at hy
  | some u =>
   rw [hk, aef] at hy
   split at hy
   ·exact hy
   ·simp at hy
def qg (R : List Tr) (f : Int) : List Tr := R.filter fun x => decide (f ≤ dQ x.L)
theorem yP (R : List Tr) (f : Int) : (qg R f).map Tr.pl = sS (R.map Tr.pl) f := by
 unfold qg sS;rw [List.filter_map];rfl
def oH (R : List Tr) (left : Lit → Bool) (f : Int) : List Tr := R.filter fun x => left (.int .i64 x.t) || decide (f ≤ dQ x.L)
theorem CN {R : List Tr} {left : Lit → Bool} {f : Int} (h : ∀ x ∈ R, left (.int .i64 x.t) = true) : oH R left f = R := ae2.2 fun x hx => by rw [h x hx]; rfl
theorem Jw {R : List Tr} {left : Lit → Bool} {f : Int} (h : ∀ k, left k = false) : oH R left f = qg R f := aeH fun x hx => by rw [h]; rfl
theorem Jx {R : List Tr} (h : bw kR R) {left : Lit → Bool} {f : Int} {x : Tr} (hx : x ∈ R) (hf : f ≤ dQ x.L) : oH R (fun z => left z && !z.sameKey (.int .i64 x.t)) f = oH R left f := by
 refine aeH fun y hy => ?_;dsimp only;rw [jy];by_cases e : y.t = x.t
 ·obtain rfl := yj h hy hx e;simp [hf]
 ·simp [e]
theorem P3 {R : List Tr} (h : bw kR R) {left : Lit → Bool} {f : Int} {x : Tr} (hx : x ∈ R) (hf : dQ x.L < f) : oH R (fun z => left z && !z.sameKey (.int .i64 x.t)) f = (oH R left f).filter fun y => decide (y.t ≠ x.t) := by
 unfold oH;rw [List.filter_filter];refine aeH fun y hy => ?_;dsimp only;rw [jy];by_cases e : y.t = x.t
 ·obtain rfl := yj h hy hx e;simp;omega
 ·simp [e]
theorem P7 (R : List Tr) (left : Lit → Bool) (f : Int) : (oH R left f).length ≤ R.length := adF _ _
theorem bR.filter {w w' : World} {gs bm : Nat} {R : List Tr} (h : bR w gs bm R) (f : Int) {D : DataW Value} (hc : ak w w' fun k => k = bm) (hm : ez w' bm (qg R f) D) : gC w w' gs bm R (qg R f) (sS (R.map Tr.pl) f) := by
 have kK : ∀ x ∈ qg R f, x ∈ R := fun x hx => (adT.1 hx).1;refine ⟨⟨hc.cell h.c0 h.ne, h.ne, ⟨D, hm⟩, fun x hx => (h.fo x (kK x hx)).aU hc (h.off x (kK x hx)).2.1 (h.off x (kK x hx)).2.2.2, fun x hx => h.off x (kK x hx), fun x hx y hy => h.ap x (kK x hx) y (kK y hy), ?_⟩, yP R f, hc.mono fun k hk => .inl hk, fun k hk => ?_⟩
 ·rw [yP];exact F4 h.ok f
 ·rcases hk with h1 | h1 | ⟨x, hx, h1⟩
  ·exact .inl (.inl h1)
  ·exact .inl (.inr (.inl h1))
  ·exact .inl (.inr (.inr ⟨x, kK x hx, h1⟩))
def FL (w : World) (gs bm : Nat) (R : List Tr) (f : Int) (e : Ending) (w' : World) : Prop := e = .returned (.int .i64 ((R.length : Int) - (qg R f).length)) ∧ gC w w' gs bm R (qg R f) (sS (R.map Tr.pl) f)
theorem AW {w : World} {gs bm : Nat} {R : List Tr} (h : bR w gs bm R) (f : Int) : Calls prog 151 #[.pointer (some ⟨gs, 0, none⟩), .int .i64 f] w (FL w gs bm R f) := by
 have HM := af (kL h.c0);have HH := af h;have P8 := h.len;have Bn := af h.rises;clear h;go_enter func151, ntmps151
 go_wp2_with fail
 refine HM.out.mono ?_;rintro e X ⟨rfl, q, hq⟩;have kg : Below w.heap.size w X := by rw [hq]; exact ag w q
 clear hq;have hX := HH.out.below kg;have c0 := hX.c0;obtain ⟨D, hD⟩ := hX.map;have dG := hD.map;have HD := af hD;have HX := af hX;have qQ := af kg;have oK := hX.lt bm (.inr (.inl rfl));have TJ := hX.lt gs (.inl rfl);have lw : gs ≠ bm := hX.ne;clear hX hD kg;go_wp2_with (first | (at_range; refine wpList_range_own _ rfl _ 168 rfl 3 195 fe aeJ _ bm R.length D rfl dG ?_; intro w0 uF oe vD) | go_in)
 go_frame
 have h0 : MX D (oH R (Maps.has D) f) := by
  rw [CN fun x hx => by rw [HD.out.rd.keys, show bj kR R x.t = some x from gR HD.out.rd.rises.ids hx]; rfl];exact HD.out.rd
 have YO : (oH R (Maps.has D) f).length = R.length := by
  rw [CN fun x hx => by rw [HD.out.rd.keys, show bj kR R x.t = some x from gR HD.out.rd.rises.ids hx]; rfl]
 have M4 : ak X w0 (fun k => k = bm ∨ k = X.heap.size) := ak.aV oe _ (fun k e => by cases e);have zF := af uF;have zn := af vD;have H0 := af (acD h0 (acD YO M4));clear uF oe vD h0 YO M4 dG;go_loopw [5, 6, 7] (fun n _ _ wr => ∃ left cnt D', wr.ranges prog 3 n_ bm X.heap.size R.length D' left cnt ∧ MX D' (oH R left f) ∧ n = .int .i64 ((R.length - (oH R left f).length : Nat) : Int) ∧ ak X wr (fun k => k = bm ∨ k = X.heap.size) ∧ X.heap.size + 1 ≤ wr.heap.size) (fun _ _ _ wr => wr.rangeLeft bm X.heap.size)
 case atStart => exact ⟨_, _, _, zF.out, H0.out.1, by rw [H0.out.2.1, afa]; rfl, H0.out.2.2, by have := zn.out; omega⟩
 case round =>
  obtain ⟨left, cnt, D', vG, dk, rfl, Uz, kt⟩ := hrel;have yI := P7 R left f;obtain ⟨m, hm⟩ : ∃ m, R.length - (oH R left f).length = m := ⟨_, rfl⟩
  rw [hm];have hm8 : m ≤ 32 := by omega
  have UA := af (acD hm yI);have qM := af vG;have o0 := af dk;have Jy := af Uz;have c0r : wr.cell? ⟨gs, 0, none⟩ = some (.map (some bm)) := Uz.cell c0 (by simp; omega);clear dk Uz hm yI;go_wp2_with (first | (at_next; refine wpList_next_ranges _ rfl _ rfl 3 fe n_ (Value.int .i64) Value.pointer (fun key kl h => M3 h) (fun v y h => (yl h).1) bm X.heap.size R.length D' left cnt rfl vG ?_ ?_) | go_in)
  ·intro II Kd;have Gs := Jw (R := R) (f := f) Kd;have HDA := af Gs;clear vG Gs;go_wp2;go_ret;have Nu := UA.out;have dk := o0.out;rw [HDA.out] at Nu dk;have hn : (m : Int) = (R.length : Int) - (qg R f).length := by omega
   have xm : ak X wr (fun k => k = bm) := ⟨Jy.out.os, Jy.out.tape, Jy.out.output, Jy.out.size, fun k hk hn => Jy.out.block k hk (fun e => by
    rcases e with e | e
    ·exact hn e
    ·omega)⟩
   have htm : ez wr bm (qg R f) D' := ⟨by rw [← dk.size]; exact gG qM.out.owns, dk⟩
   exact ⟨by rw [← hn]; rfl, HH.out.filter f ((ak.of_below qQ.out _).trans xm fun k hk => .inl hk) htm⟩
  ·intro k c kl y1 ps w1 ME qN sI hv aG si bd eQ dR hen;obtain ⟨x, UB, rfl, rfl, rfl⟩ := o0.out.came (y := (y1, ps)) qN hv aG;have hx : x ∈ R := (adT.1 UB).1;have P9 := af (acD UB hx);have Fv : ak X w1 (fun k => k = bm ∨ k = X.heap.size) := Jy.out.trans (ak.aV eQ (fun k => k = bm ∨ k = X.heap.size) (fun k e => by injection e with e; exact .inl (.inr e.symm))) fun k hk => .inl hk;have hfx := HX.out.fo x hx;have Rj := hfx.lt;have U5 := hfx.aU Fv (by have := (HX.out.off x hx).2.1; omega) (by have := (HX.out.off x hx).2.2.2; omega);have Xt := af (PU U5);have UC := af si;have M5 := af Fv;have vy := af bd;have yZ := af sI;have UD := af qN;have eL := af dR;have tW : X.heap.size + 1 ≤ w1.heap.size := by omega
   obtain ⟨t, g, b, L⟩ := x;dsimp only at *;clear si Fv vG qN hv aG sI eQ dR bd hx UB hfx U5 Rj;go_wp2_with fail
   refine Xt.out.mono ?_;rintro e2 Z ⟨rfl, EM⟩;have c0Z : Z.cell? ⟨gs, 0, none⟩ = some (.map (some bm)) := (EM.cell (lt_of_cell (M5.out.cell c0 (by simp; omega)))).trans (M5.out.cell c0 (by simp; omega));have sk := fx UC.out (row := none) ⟨EM.os, EM.tape, EM.output, EM.size, fun k hk _ => EM.block k hk⟩ (by simp) (by simp);have MY : ak X Z (fun k => k = bm ∨ k = X.heap.size) := M5.out.cC EM;have Fq : X.heap.size + 1 ≤ Z.heap.size := acN tW EM.size;have Nw := af sk;have yv := af (acD MY Fq);clear sk MY Fq EM Xt;obtain ⟨a, ha⟩ : ∃ a, dQ L = a := ⟨_, rfl⟩
   rw [ha];have HA := af ha;clear ha;by_cases haf : a < f
   ·have hgo := P3 Bn.out (left := left) P9.out.2 (show dQ L < f by rw [HA.out]; exact haf);have hlen := rN (o0.out.rises) P9.out.1;have z_ := o0.out.del (qM.out.owns.tidy fe) P9.out.1;change ((oH R left f).filter fun y => decide (y.t ≠ t)).length + 1 = _ at hlen;rw [← hgo] at hlen z_;dsimp only at hlen z_ hgo;have HG := af (acD hlen z_);have sk := Nw.out;clear hgo hlen z_;go_wp2_with (at_delete; refine wpList_delete_ranges _ rfl _ _ 168 3 rfl 195 fe aeJ n_ bm X.heap.size R.length D' _ ME rfl sk _ _ rfl UD.out ?_; intro w2 abC Fw M6 uO)
    rw [Maps.strike_twice] at Fw;have Hj := af Fw;have Fo := af M6;have dO := uO.grown;have rX : ak X w2 (fun k => k = bm ∨ k = X.heap.size) := yv.out.1.trans (ak.aV dO (fun k => k = bm ∨ k = X.heap.size) (fun k e => by injection e with e; exact .inl (.inl e.symm))) fun k hk => .inl hk;have eF : X.heap.size + 1 ≤ w2.heap.size := acN yv.out.2 dO.size;have AL := af (acD rX eF);have sk := aev;clear Fw M6 uO dO rX eF;go_wp2;go_roundw;case rel => exact ⟨_, _, _, Hj.out, HG.out.2, (by have h1 := HG.out.1; have h2 := UA.out; have e : R.length - (oH R (fun z => left z && !z.sameKey (Lit.int .i64 t)) f).length = m + 1 := (by omega); rw [e]; go_num), AL.out.1, AL.out.2⟩
    case measure => rw [Hj.out.left_eq, qM.out.left_eq]; have := Fo.out; have := vy.out; omega
   ·have hst := Jx Bn.out (left := left) P9.out.2 (show f ≤ dQ L by rw [HA.out]; omega);dsimp only at hst;have eH := af hst;clear hst;go_wp2;go_roundw;case rel => exact ⟨_, _, _, Nw.out, by rw [eH.out]; exact o0.out, by rw [eH.out, UA.out.1], yv.out.1, yv.out.2⟩
    case measure => rw [Nw.out.left_eq, qM.out.left_eq]; exact vy.out
open Go.RowKit Go.Maps Go.Sort Go.Shelf
theorem Aa {w : World} {b : Nat} {L : List Tr} {D : DataW Value} (h : ez w b L D) {ss : List Int} (hp : ss.Perm (intKeys D)) : ss.mergeSort (fun x y => decide (x ≤ y)) = L.map (·.t) := by
 obtain ⟨es, hD, hpw, _⟩ := h.map.entries fe;obtain ⟨es', M7, hko⟩ := h.map.keysOf;obtain rfl : es = es' := by rw [hD] at M7; simpa using M7
 have hr : (L.map (·.t)).Pairwise (fun x y => x < y) := List.pairwise_map.2 h.rd.rises;have Zo : (L.map (·.t)).Nodup := hr.imp fun {x y} (h : x < y) e => by omega
 have hq : (L.map (·.t)).Perm (intKeys D) := by
  rw [hD];refine perm_intKeys hpw (fun p hp => ?_) Zo fun x => ?_
  ·obtain ⟨v, hv⟩ := hko p hp;obtain ⟨x, _, hx, _⟩ := Maps.keyOf_i64 aee hv;exact ⟨x, hx⟩
  ·rw [← hD, h.rd.keys];constructor
   ·intro hx;obtain ⟨y, hy, rfl⟩ := ads.1 hx;rw [show bj kR L y.t = some y from gR h.rd.rises.ids hy];rfl
   ·intro hx;obtain ⟨y, hy⟩ := adG.1 hx;obtain ⟨h1, h2⟩ := fR hy;exact ads.2 ⟨y, h1, h2⟩
 have e := mergeSort_of_perm_i (hp.trans hq.symm);unfold leI at e;rw [e];exact List.mergeSort_of_pairwise (hr.imp fun {x y} (h : x < y) => by simp; omega)
theorem M8 (m : Nat) : AnyZI.SortsIn prog Tryz.sortedA_ren Fence.wide m :=
 ⟨fun blk off cap ss W hH hblk kt => callsIn_wide.2 (AnyM.slices_Sort_int Tryz.sortA blk off cap ss W hH hblk kt),
  fun p cap W => callsIn_wide.2 (AnyM.slices_Sort_int_none Tryz.sortA p cap W)⟩
theorem Jz (mb : Option Nat) (W : World) : Calls prog 129 #[.map mb] W fun e w' => e = .returned (.func (.func 168) #[] #[.pointer (some ⟨W.heap.size, 0, none⟩)]) ∧ w' = W.alloc (.cells #[.map mb] 168) :=
 (callsIn_wide (n := 5)).1 (AnyZI.keys_in Tryz.keysA Fence.wide 5 aev rfl mb W)
def uP (W : World) (l : List Int) (e : Ending) (w' : World) : Prop := ∃ v, e = .returned v ∧ w'.ownsRow W.heap.size 3 1 v l.length (l.map (Value.int .i64)) ∧ Below W.heap.size W w'
theorem CO {w : World} {b : Nat} {L : List Tr} {D : DataW Value} (h : ez w b L D) (hL : L.length ≤ 1100000) : Calls prog 128 #[.func (.func 168) #[] #[.pointer (some ⟨w.heap.size, 0, none⟩)]] (w.alloc (.cells #[.map (some b)] 168)) (uP (w.alloc (.cells #[.map (some b)] 168)) (L.map (·.t))) := by
 have xu := h.lt;have UE : SeqGives Fence.wide 2 prog 168 #[.pointer (some ⟨w.heap.size, 0, none⟩)] encZ (fun ss => ss.Perm (intKeys D)) (Maps.size D) (w.alloc (.cells #[.map (some b)] 168)) :=
  AnyZI.keys_gives (ρ := Tryz.keysA_ren) { Tryz.keysA with } Fence.wide _ aev rfl (by omega) w.heap.size b L.length D _ (by simp) (by simp) (by
   obtain ⟨es, clock, hb, Ft, hs, hD⟩ := h.map;exact ⟨es, clock, (Below.heap_alloc _ _ b xu).trans hb, Ft, hs, hD⟩)
 have cS := AnyZI.sorted_in Tryz.sortedA Fence.wide 5 aev aev aev aev rfl (by omega) (M8 _) (enters_of func167 (by kernel_rfl) rfl) 168 #[.pointer (some ⟨w.heap.size, 0, none⟩)] aev (enters_of func168 (by kernel_rfl) rfl) _ _ (by rw [h.rd.size]; simp [maxLen]; omega) (by rw [h.rd.size]; omega) _ UE;change CallsIn _ _ prog 128 _ _ _ at cS;refine ((callsIn_wide (n := 5)).1 cS).mono ?_;rintro e w' ⟨v, ss, rfl, hS, aM, Tc, hb⟩;have hs := Aa h hS;refine ⟨v, rfl, ?_, hb⟩;have hl : ss.length = (L.map (·.t)).length := by rw [← hs, List.length_mergeSort]
 rw [hs, hl] at aM;exact aM
def sZ (w : World) (R : List Tr) (e : Ending) (w' : World) : Prop := ∃ v, e = .returned v ∧ w'.ownsRow w.heap.size 3 1 v R.length ((R.map (·.t)).map (Value.int .i64)) ∧ Below w.heap.size w w'
theorem CP {w : World} {B B' : Nat} {ty : TypeId} {n m : Nat} {v : Value} {cs : List Value} (h : w.ownsRow B ty n v m cs) (hB : B' ≤ B) : w.ownsRow B' ty n v m cs :=
 ⟨h.1, h.2.imp id fun ⟨g, cap, cur, e, hb, r⟩ => ⟨g, cap, cur, e, acN hB hb, r⟩⟩
theorem ry {w : World} {gs bm : Nat} {R : List Tr} (h : bR w gs bm R) : Calls prog 93 #[.pointer (some ⟨gs, 0, none⟩)] w (sZ w R) := by
 have HM := af (kL h.c0);have HH := af h;have P8 := h.len;clear h;go_enter func93, ntmps93
 go_wp2_with fail
 refine HM.out.mono ?_;rintro e X ⟨rfl, q, hq⟩;have kg : Below w.heap.size w X := by rw [hq]; exact ag w q
 clear hq;have hX := HH.out.below kg;have c0 := hX.c0;obtain ⟨D, hD⟩ := hX.map;have HS := af (CO hD (by omega));have qQ := af kg;clear hX hD kg;go_wp2_with fail
 refine (Jz _ _).mono ?_;rintro e w1 ⟨rfl, rfl⟩;go_wp2_with fail
 refine HS.out.mono ?_;rintro e w2 ⟨v, rfl, aM, aP⟩;have r_ : (R.map (·.t)).length = R.length := by simp
 rw [r_] at aM;have hb : Below X.heap.size X w2 := ((acG _ X).alloc (acE _) _).trans (aP.mono (by simp));have HR := af (CP (B' := w.heap.size) aM (by have := qQ.out.size; simp; omega));have HB := af (qQ.out.trans (hb.mono qQ.out.size));clear aM aP hb r_;go_wp2;go_ret;exact ⟨v, rfl, HR.out, HB.out⟩
theorem Bb {w : World} {gs bm : Nat} {R : List Tr} (h : bR w gs bm R) {k : Int} (hk : (Lit.int .i64 k).wf = true) : Calls prog 96 #[.pointer (some ⟨gs, 0, none⟩), .int .i64 k] w fun e w' => ∃ v', e = .returned v' ∧ bQ w.heap.size w' v' (g_ (R.map Tr.pl) k) ∧ Below w.heap.size w w' := by
 have HM := af (kL h.c0);have HH := af h;have HK := af hk;clear h hk;go_enter func96, ntmps96
 go_wp2_with fail
 refine HM.out.mono ?_;rintro e X ⟨rfl, q, hq⟩;have kg : Below w.heap.size w X := by rw [hq]; exact ag w q
 clear hq;have hX := HH.out.below kg;have c0 := hX.c0;obtain ⟨D, hD⟩ := hX.map;have hl : (Instr.lookup 168 (.map (some bm)) (.int .i64 k) false).run prog X = .ok (zX (bj kR R k)) X := hD.look HK.out 0;have qQ := af kg;have HX := af hX;clear hX hD kg;cases hf : bj kR R k with
 | none =>
  rw [hf] at hl;dsimp only [zX] at hl;have yZ : Hid (g_ (R.map Tr.pl) k = []) := af (by unfold g_; rw [jm Tr.pl nZ, hf]; rfl);clear hf;go_wp2_with fail
  refine (Cx (v := .pointer none) (.inl rfl)).mono ?_;rintro e2 w2 ⟨rfl, aP⟩;have HB := af (qQ.out.trans (aP.mono qQ.out.size));clear aP;go_wp2;go_ret;exact ⟨_, rfl, by rw [yZ.out]; exact bQ.nil _ _, HB.out⟩
 | some y =>
  rw [hf] at hl;dsimp only [zX, Tr.v] at hl;have HF := af (HX.out.fo y (fR hf).1);have yZ : Hid (g_ (R.map Tr.pl) k = jK (aQ y.L)) := af (by unfold g_; rw [jm Tr.pl nZ, hf]; rfl);clear hf;go_wp2_with fail
  refine (zV HF.out).mono ?_;rintro e2 w2 ⟨v2, rfl, eX, aP⟩;have HB := af (qQ.out.trans (aP.mono qQ.out.size));have HO := af (eX.mono qQ.out.size);clear aP eX;go_wp2;go_ret;exact ⟨v2, rfl, by rw [yZ.out]; exact HO.out, HB.out⟩
end Go.Proofs.YtionbmlicmibgaaGreatDoor
