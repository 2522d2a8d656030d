import Derived.Test.YtionbmlicmibgaaGreatDoorS3
set_option linter.unusedVariables false
set_option linter.unusedSimpArgs false
namespace Go.Proofs.YtionbmlicmibgaaGreatDoor
open Go.Proofs.Tryz
set_option maxRecDepth 200000
set_option maxHeartbeats 4000000
open Go.RowKit
theorem av {l : List UInt8} {st : Nat × Nat} (h : st.1 ≤ l.length) : (nx l st).2.1 ≤ l.length ∧ (nx l st).1 < 9223372036854775808 := by
 unfold nx
 split
 ·exact ⟨h, by show (0 : Nat) < _; decide⟩
 ·obtain ⟨n, k, e, hR⟩ : ∃ n k e, aR (l.drop st.1) = (n, k, e) := ⟨_, _, _, rfl⟩
  rw [hR];have := jR hR;rw [adg] at this;dsimp only;omega
theorem xl {l : List UInt8} {most : Nat} {st : Nat × Nat} (h : st.1 ≤ l.length) : (tx l most st).2.1 ≤ l.length := by
 unfold tx
 split
 ·exact h
 ·split
  ·exact h
  ·split
   ·exact h
   ·split
    ·exact h
    ·dsimp only; omega
theorem zm {l : List UInt8} {most a E : Nat} : tx l most (a, E) = if E ≠ 0 then ([], a, E) else xI l a most := rfl
theorem LR {l : List UInt8} {st : Nat × Nat} (h : st.1 ≤ l.length) : (bM l st).2.1 ≤ l.length := by
 unfold bM;dsimp only;exact xl (av (av (av (av (av h).1).1).1).1).1
theorem LS {l : List UInt8} {most : Nat} {st : Nat × Nat} : (tx l most st).1.length ≤ most := by
 unfold tx
 split
 ·simp
 ·split
  ·simp
  ·split
   ·simp
   ·split
    ·simp
    ·dsimp only;rw [ac6];omega
theorem ah {w w' : World} {row : Option Nat} (h : w.grownBy w' row) {b i : Nat} {x : Value} (hb : w.heap.size ≤ b) : w.grownBy (w'.setCell ⟨b, i, none⟩ x) row :=
 ⟨h.os, h.tape, h.output, by have := h.size; simpa [World.setCell] using this, fun k hk aN => (adf w' ⟨b, i, none⟩ k _ (by simp; omega)).trans (h.block k hk aN)⟩
theorem lt_of_heap {w : World} {b : Nat} {o : Obj} (h : w.heap[b]? = some o) : b < w.heap.size := (acJ.1 h).1
theorem LU {w : World} {g : Nat} {p : Option Addr} {n c : Nat} {st : Nat × Nat} {l : List UInt8} (hS : Sc w g (.slice p n c) st.1 st.2) (gZ : By w (.slice p n c) l) (aN : l = [] ∨ ∀ k, (Value.slice p n c).ownBlock = some k → some g ≠ some k) (aG : st.1 ≤ n) :
  Calls prog 143 #[.pointer (some ⟨g, 0, none⟩)] w (qu w g (.slice p n c) (bM l st).2.1 (bM l st).2.2 (dZ (bM l st).1)) := by
 have hn := gZ.len.1;have bd := hS.lt;obtain ⟨a0, E0⟩ := st;dsimp only at hS aG;obtain ⟨X, hX⟩ : ∃ X, w.alloc (.cells #[.int .i64 0, .int .i64 0, .int .i64 0, .int .i64 0, .int .i64 0, .string ⟨#[]⟩] 30) = X := ⟨_, rfl⟩
 have Ca : Below w.heap.size w X := by rw [← hX]; exact (acG _ _).alloc (acE _) _
 have fA : X.heap[w.heap.size]? = some (.cells #[.int .i64 0, .int .i64 0, .int .i64 0, .int .i64 0, .int .i64 0, .string ⟨#[]⟩] 30 (0, 0)) := by
  rw [← hX];exact acQ w _
 have hSX : Sc X g (.slice p n c) a0 E0 := by
  have := Ca.block g bd;unfold Sc at hS ⊢;rw [this];exact hS
 have hBX := gZ.below Ca;have TJ : w.grownBy X (some g) := ⟨Ca.os, Ca.tape, Ca.output, Ca.size, fun k hk _ => Ca.block k hk⟩
 obtain ⟨n1, a1, E1, h1⟩ : ∃ n a E, nx l (a0, E0) = (n, a, E) := ⟨_, _, _, rfl⟩
 obtain ⟨n2, a2, E2, h2⟩ : ∃ n a E, nx l (a1, E1) = (n, a, E) := ⟨_, _, _, rfl⟩
 obtain ⟨n3, a3, E3, h3⟩ : ∃ n a E, nx l (a2, E2) = (n, a, E) := ⟨_, _, _, rfl⟩
 obtain ⟨n4, a4, E4, h4⟩ : ∃ n a E, nx l (a3, E3) = (n, a, E) := ⟨_, _, _, rfl⟩
 obtain ⟨n5, a5, E5, h5⟩ : ∃ n a E, nx l (a4, E4) = (n, a, E) := ⟨_, _, _, rfl⟩
 obtain ⟨T6, a6, E6, h6⟩ : ∃ n a E, tx l 32 (a5, E5) = (n, a, E) := ⟨_, _, _, rfl⟩
 have nO : bM l (a0, E0) = (⟨n1, n2, n3, n4, tM n4 n5, ⟨T6.toArray⟩⟩, a6, E6) := by
  unfold bM;rw [h1]; dsimp only;rw [h2]; dsimp only;rw [h3]; dsimp only;rw [h4]; dsimp only;rw [h5]; dsimp only;rw [h6]
 rw [nO];unfold dZ;dsimp only;obtain ⟨sm, hsm⟩ : ∃ sm, IntKind.i64.wrap ((n4 : Int) + (n5 : Int)) = sm := ⟨_, rfl⟩
 rw [show tM n4 n5 = sm from hsm];have l1 : a1 ≤ n := by have := (av (l := l) (st := (a0, E0)) (by dsimp only; omega)).1; rw [h1] at this; dsimp only at this; omega
 have l2 : a2 ≤ n := by have := (av (l := l) (st := (a1, E1)) (by dsimp only; omega)).1; rw [h2] at this; dsimp only at this; omega
 have l3 : a3 ≤ n := by have := (av (l := l) (st := (a2, E2)) (by dsimp only; omega)).1; rw [h3] at this; dsimp only at this; omega
 have l4 : a4 ≤ n := by have := (av (l := l) (st := (a3, E3)) (by dsimp only; omega)).1; rw [h4] at this; dsimp only at this; omega
 have l5 : a5 ≤ n := by have := (av (l := l) (st := (a4, E4)) (by dsimp only; omega)).1; rw [h5] at this; dsimp only at this; omega
 have HH := af (acD h1 (acD h2 (acD h3 (acD h4 (acD h5 h6)))));have jd := af aN;have zn := af (acD hSX hBX);have HG0 := af TJ;have O_ := af fA;have vy := af bd;have HN := af hn;have il := af (show w.heap.size < X.heap.size by rw [← hX]; simp);clear h1 h2 h3 h4 h5 h6 aN hSX hBX TJ fA hS gZ Ca bd hn nO;go_enter func143, ntmps143
 go_wp2_with fail
 clear hX;refine (ay zn.out.1 zn.out.2 aG (show _ = (n1, a1, E1) from HH.out.1)).mono ?_;rintro e1 w1 ⟨rfl, dR, eQ⟩;have eL := af (acD dR (zn.out.2.grown eQ jd.out));have HG1 := af eQ;clear dR eQ;go_wp2_with fail
 refine (ay eL.out.1 eL.out.2 l1 (show _ = (n2, a2, E2) from HH.out.2.1)).mono ?_;rintro e2 w2 ⟨rfl, eF, dO⟩;have vB := af (acD eF (eL.out.2.grown dO jd.out));have rV := af (aJ HG1.out dO);clear eF dO;go_wp2_with fail
 refine (ay vB.out.1 vB.out.2 l2 (show _ = (n3, a3, E3) from HH.out.2.2.1)).mono ?_;rintro e3 w3 ⟨rfl, jH, fE⟩;have Ar := af (acD jH (vB.out.2.grown fE jd.out));have wv := af (aJ rV.out fE);clear jH fE;go_wp2_with fail
 refine (ay Ar.out.1 Ar.out.2 l3 (show _ = (n4, a4, E4) from HH.out.2.2.2.1)).mono ?_;rintro e4 w4 ⟨rfl, J1, lz⟩;have Ew := af (acD J1 (Ar.out.2.grown lz jd.out));have hG4 := aJ wv.out lz;have hq0 := (hG4.block w.heap.size il.out (by have := vy.out; intro e; injection e with e; omega)).trans O_.out;have Nx := af hG4;have HQ := af hq0;clear J1 lz hG4 hq0;go_wp2_with fail
 obtain ⟨b, hb⟩ : ∃ b, w4.heap.size = b := ⟨_, rfl⟩
 obtain ⟨Y, hY⟩ : ∃ Y, w4.alloc (.cells #[.int .i64 (n1 : Int), .int .i64 (n2 : Int), .int .i64 (n3 : Int), .int .i64 (n4 : Int), .int .i64 0, .string ⟨#[]⟩] 30) = Y := ⟨_, rfl⟩
 have hyb : Y.heap[b]? = some (.cells #[.int .i64 (n1 : Int), .int .i64 (n2 : Int), .int .i64 (n3 : Int), .int .i64 (n4 : Int), .int .i64 0, .string ⟨#[]⟩] 30 (0, 0)) := by
  rw [← hY, ← hb];exact acQ w4 _
 have Ax : Below w4.heap.size w4 Y := by rw [← hY]; exact (acG _ _).alloc (acE _) _
 have VH : Sc Y g (.slice p n c) a4 E4 := by
  have := Ax.block g Ew.out.1.lt;have h2 := Ew.out.1;unfold Sc at h2 ⊢;rw [this];exact h2
 have TK := Ew.out.2.below Ax;have hyG : w4.grownBy Y (some g) := ⟨Ax.os, Ax.tape, Ax.output, Ax.size, fun k hk _ => Ax.block k hk⟩
 have lw : some b ≠ some g := by
  have := Ew.out.1.lt;intro e;injection e with e;omega
 have XR : l = [] ∨ ∀ k, (Value.slice p n c).ownBlock = some k → some b ≠ some k := by
  cases hl : l with
  | nil => exact .inl rfl
  | cons y r =>
   refine .inr fun k hk e => ?_;injection e with e;have Vo := Ew.out.2;obtain ⟨p', c', e2, _, _, _, hc⟩ := Vo;injection e2 with e2;subst e2;cases p with
   | none => cases hk
   | some ad =>
    simp only [Value.ownBlock, adp] at hk;have := lt_of_cell (hc ad rfl 0 y (by rw [hl]; rfl));rw [block_add] at this;omega
 have Cb := af XR;have jM := af lw;have HYB := af hyb;have Z_ := af (aJ Nx.out hyG);have HBB := af (show X.heap.size ≤ b by rw [← hb]; exact Nx.out.size);have hf : ∀ V, (∃ q, V = Y.drewN q) → Calls prog 105 #[.pointer (some ⟨g, 0, none⟩)] V fun e w' => e = .returned (.int .i64 (n5 : Int)) ∧ Hid (Sc w' g (.slice p n c) a5 E5) ∧ Hid (Y.grownBy w' (some g)) := by
  rintro V ⟨q, rfl⟩;refine (ay (w := Y.drewN q) (show Sc (Y.drewN q) g _ a4 E4 from VH) (TK.drewN q) l4 (show _ = (n5, a5, E5) from HH.out.2.2.2.2.1)).mono fun e w' ⟨he, h1, h2⟩ => ⟨he, af h1, af ⟨h2.os, h2.tape, h2.output, h2.size, h2.block⟩⟩
 have y3 : ∀ q, (Y.drewN q).cell? ⟨b, 3, none⟩ = some (.int .i64 (n4 : Int)) := fun q => by rw [World.cell?_drewN, acC Y b 3 _ 30 (0, 0) hyb]; rfl
 have y3' : Y.cell? ⟨b, 3, none⟩ = some (.int .i64 (n4 : Int)) := y3 0;clear y3;have HF := af hf;have HY3 := af TK;clear hyb Ax VH hyG lw hf TK XR;rw [hY, hb];clear hY;have dL := af hb;clear hb;go_region_with (first
  | (go_at_call 105; refine (HF.out _ (by first | exact ⟨_, rfl⟩ | exact ⟨0, rfl⟩ | exact ⟨1, rfl⟩)).mono ?_; rintro e5 w5 ⟨rfl, lC, ik⟩; have TI := (ik.out.block b (lt_of_cell y3') jM.out).trans HYB.out; have z3 : w5.cell? ⟨b, 3, none⟩ = some (.int .i64 (n4 : Int)) := (acC w5 b 3 _ 30 (0, 0) TI); have f4 : w5.frozen? ⟨b, 4, none⟩ = false := acI w5 b 4 _ 30 TI; have z4 : w5.cell? ⟨b, 4, none⟩ = some (.int .i64 0) := (acC w5 b 4 _ 30 (0, 0) TI); have FW := af TI; clear TI))
 all_goals
  obtain ⟨Z6, XS⟩ : ∃ Z6, w5.setCell ⟨b, 4, none⟩ (.int .i64 sm) = Z6 := ⟨_, rfl⟩
  have Dq : Z6.heap[b]? = some (.cells #[.int .i64 (n1 : Int), .int .i64 (n2 : Int), .int .i64 (n3 : Int), .int .i64 (n4 : Int), .int .i64 sm, .string ⟨#[]⟩] 30 (0, 0)) := by
   rw [← XS, acK w5 b 4 _ 30 (.int .i64 sm) FW.out];rfl
  have eM : w5.grownBy Z6 (some b) := by rw [← XS]; exact aj _ _ _ _
  have Il : Sc Z6 g (.slice p n c) a5 E5 := by
   have h1 := lC.out;unfold Sc at h1 ⊢;rw [eM.block g (lC.out.lt) (fun e => jM.out e.symm)];exact h1
  have XT := (HY3.out.grown ik.out jd.out).grown eM Cb.out;have XU : w.grownBy Z6 (some g) := by
   rw [← XS];exact ah (aJ HG0.out (aJ Z_.out ik.out)) (acN (afe il.out) HBB.out)
  have lX : Z6.heap[w.heap.size]? = some (.cells #[.int .i64 0, .int .i64 0, .int .i64 0, .int .i64 0, .int .i64 0, .string ⟨#[]⟩] 30 (0, 0)) := by
   have hlr : w.heap.size < X.heap.size := il.out;have aN : some w.heap.size ≠ some g := by have := vy.out; intro e; injection e with e; omega
   rw [eM.block w.heap.size (acV hlr (acN Z_.out.size ik.out.size)) (by have := HBB.out; intro e; injection e with e; omega), ik.out.block w.heap.size (acV hlr Z_.out.size) aN, Z_.out.block w.heap.size hlr aN];exact O_.out
  have vC := af (acD Il XT);have ZB := af XU;have FR := af lX;have QH := af Dq;rw [XS];clear XS Dq eM Il XT XU lX lC ik FW;go_wp2_with fail
  refine (kW vC.out.1 vC.out.2 jd.out l5 32 32 (by decide) (T := T6) (A := a6) (E := E6) (by have := HH.out.2.2.2.2.2; rw [zm] at this; exact this)).mono ?_;rintro e7 w7 ⟨rfl, VI, qb⟩;have aN : some w.heap.size ≠ some g := by have := vy.out; intro e; injection e with e; omega
  have cZ := (qb.block b (lt_of_heap QH.out) jM.out).trans QH.out;have hr7 := (qb.block w.heap.size (lt_of_heap FR.out) aN).trans FR.out;have fb := acI w7 b 5 _ 30 cZ;have zb : w7.cell? ⟨b, 5, none⟩ = some (.string ⟨#[]⟩) := acC w7 b 5 _ 30 (0, 0) cZ;obtain ⟨Z8, hZ8⟩ : ∃ Z8, w7.setCell ⟨b, 5, none⟩ (.string (str T6)) = Z8 := ⟨_, rfl⟩
  have kn : Z8.heap[b]? = some (.cells #[.int .i64 (n1 : Int), .int .i64 (n2 : Int), .int .i64 (n3 : Int), .int .i64 (n4 : Int), .int .i64 sm, .string (str T6)] 30 (0, 0)) := by
   rw [← hZ8, acK w7 b 5 _ 30 (.string (str T6)) cZ];rfl
  have zG : w7.grownBy Z8 (some b) := by rw [← hZ8]; exact aj _ _ _ _
  have EO := (zG.block w.heap.size (lt_of_heap hr7) (by have := HBB.out; have := il.out; intro e; injection e with e; omega)).trans hr7;have fG : Sc Z8 g (.slice p n c) a6 E6 := by
   have h1 := VI;unfold Sc at h1 ⊢;rw [zG.block g (VI.lt) (fun e => jM.out e.symm)];exact h1
  have XV : w.grownBy Z8 (some g) := by
   rw [← hZ8];exact ah (aJ ZB.out qb) (acN (afe il.out) HBB.out)
  obtain ⟨r, hr⟩ : ∃ r, w.heap.size = r := ⟨_, rfl⟩
  rw [hr] at EO;have k0 : Z8.cell? ⟨b, 0, none⟩ = some (.int .i64 (n1 : Int)) := acC Z8 b 0 _ 30 (0, 0) kn;have k1 : Z8.cell? ⟨b, 1, none⟩ = some (.int .i64 (n2 : Int)) := acC Z8 b 1 _ 30 (0, 0) kn;have k2 : Z8.cell? ⟨b, 2, none⟩ = some (.int .i64 (n3 : Int)) := acC Z8 b 2 _ 30 (0, 0) kn;have k3 : Z8.cell? ⟨b, 3, none⟩ = some (.int .i64 (n4 : Int)) := acC Z8 b 3 _ 30 (0, 0) kn;have k4 : Z8.cell? ⟨b, 4, none⟩ = some (.int .i64 sm) := acC Z8 b 4 _ 30 (0, 0) kn;have k5 : Z8.cell? ⟨b, 5, none⟩ = some (.string (str T6)) := acC Z8 b 5 _ 30 (0, 0) kn;have j0 : Z8.cell? ⟨r, 0, none⟩ = some (.int .i64 0) := acC Z8 r 0 _ 30 (0, 0) EO;have j1 : Z8.cell? ⟨r, 1, none⟩ = some (.int .i64 0) := acC Z8 r 1 _ 30 (0, 0) EO;have j2 : Z8.cell? ⟨r, 2, none⟩ = some (.int .i64 0) := acC Z8 r 2 _ 30 (0, 0) EO;have j3 : Z8.cell? ⟨r, 3, none⟩ = some (.int .i64 0) := acC Z8 r 3 _ 30 (0, 0) EO;have j4 : Z8.cell? ⟨r, 4, none⟩ = some (.int .i64 0) := acC Z8 r 4 _ 30 (0, 0) EO;have j5 : Z8.cell? ⟨r, 5, none⟩ = some (.string ⟨#[]⟩) := acC Z8 r 5 _ 30 (0, 0) EO;have JZ := acI Z8 r 0 _ 30 EO;have J0 := acI Z8 r 1 _ 30 EO;have Qw := acI Z8 r 2 _ 30 EO;have Qx := acI Z8 r 3 _ 30 EO;have Qy := acI Z8 r 4 _ 30 EO;have Qz := acI Z8 r 5 _ 30 EO;have ti := af fG;have ZT := af XV;have ZP := af hr;have HLG := af (show g < r by rw [← hr]; exact vy.out);have Dg := af EO;rw [hr];clear VI qb cZ hr7 aN fG XV kn zG EO hr;go_wp2_with fail
  refine ac0 (v := .agg #[.int .i64 (n1 : Int), .int .i64 (n2 : Int), .int .i64 (n3 : Int), .int .i64 (n4 : Int), .int .i64 sm, .string (str T6)]) (by
   have q0 := acK Z8 r 0 _ 30 (.int .i64 (n1 : Int)) Dg.out;have q1 := acK _ r 1 _ 30 (.int .i64 (n2 : Int)) q0;have q2 := acK _ r 2 _ 30 (.int .i64 (n3 : Int)) q1;have q3 := acK _ r 3 _ 30 (.int .i64 (n4 : Int)) q2;have q4 := acK _ r 4 _ 30 (.int .i64 sm) q3;have q5 := acK _ r 5 _ 30 (.string (str T6)) q4;generalize (((((Z8.setCell ⟨r, 0, none⟩ (.int .i64 (n1 : Int))).setCell ⟨r, 1, none⟩ (.int .i64 (n2 : Int))).setCell ⟨r, 2, none⟩ (.int .i64 (n3 : Int))).setCell ⟨r, 3, none⟩ (.int .i64 (n4 : Int))).setCell ⟨r, 4, none⟩ (.int .i64 sm)).setCell ⟨r, 5, none⟩ (.string (str T6)) = W9 at q5 ⊢;have m0 : W9.cell? ⟨r, 0, none⟩ = some (.int .i64 (n1 : Int)) := acC W9 r 0 _ 30 (0, 0) q5;have m1 : W9.cell? ⟨r, 1, none⟩ = some (.int .i64 (n2 : Int)) := acC W9 r 1 _ 30 (0, 0) q5;have m2 : W9.cell? ⟨r, 2, none⟩ = some (.int .i64 (n3 : Int)) := acC W9 r 2 _ 30 (0, 0) q5;have m3 : W9.cell? ⟨r, 3, none⟩ = some (.int .i64 (n4 : Int)) := acC W9 r 3 _ 30 (0, 0) q5;have m4 : W9.cell? ⟨r, 4, none⟩ = some (.int .i64 sm) := acC W9 r 4 _ 30 (0, 0) q5;have m5 : W9.cell? ⟨r, 5, none⟩ = some (.string (str T6)) := acC W9 r 5 _ 30 (0, 0) q5;clear q0 q1 q2 q3 q4 q5;simp [results, results143, go_sem, m0, m1, m2, m3, m4, m5]) rfl ⟨by rw [str_eq], ?_, ?_⟩
  ·have h1 := ti.out;have hlg := HLG.out;unfold Sc at h1 ⊢;rw [adf _ ⟨r, 5, none⟩ g _ (by simp; omega), adf _ ⟨r, 4, none⟩ g _ (by simp; omega), adf _ ⟨r, 3, none⟩ g _ (by simp; omega), adf _ ⟨r, 2, none⟩ g _ (by simp; omega), adf _ ⟨r, 1, none⟩ g _ (by simp; omega), adf _ ⟨r, 0, none⟩ g _ (by simp; omega)];exact h1
  ·have o_ := ZP.out;exact ah (ah (ah (ah (ah (ah ZT.out (by omega)) (by omega)) (by omega)) (by omega)) (by omega)) (by omega)
theorem I5 {l : List UInt8} {a E : Nat} (h : E ≠ 0) : (bM l (a, E)).1.ok = false := by
 rw [adJ];intro aT;rw [Sp.aO] at aT;have hn := aT.t1;have hz : (bM l (a, E)).1.t = 0 := by
  unfold bM nx;dsimp only;rw [acW h];rfl
 omega
theorem t6 (l : List UInt8) (st : Nat × Nat) : (bM l st).1.n.size ≤ 1100000 := by
 have : (bM l st).1.n.size = (tx l 32 (nx l (nx l (nx l (nx l (nx l st).2).2).2).2).2).1.length := by
  unfold bM;dsimp only;simp [ByteArray.size]
 rw [this];have := LS (l := l) (most := 32) (st := (nx l (nx l (nx l (nx l (nx l st).2).2).2).2).2);omega
def rZ (l : List UInt8) (r : List Sp) (k : Nat) (st : Nat × Nat) : List Sp × Nat :=
 match mg l k st with
 | none => ([], 30)
 | some (r', a, e) => if e = 0 ∧ a = l.length then (r ++ r', 0) else ([], 30)
theorem TL (l : List UInt8) : eT l = rZ l [] (nx l (0, 0)).1 (nx l (0, 0)).2 := rfl
theorem Pd {l : List UInt8} {r : List Sp} {k : Nat} {st : Nat × Nat} (h : (bM l st).1.ok = true) : rZ l r (k + 1) st = rZ l (r ++ [(bM l st).1]) k (bM l st).2 := by
 unfold rZ;rw [mg, acW h];cases mg l k (bM l st).2 with
 | none => rfl
 | some q =>
  obtain ⟨r', a, e⟩ := q;simp
theorem LV {l : List UInt8} {r : List Sp} {k : Nat} {st : Nat × Nat} (h : (bM l st).1.ok = false) : rZ l r (k + 1) st = ([], 30) := by
 unfold rZ;rw [mg, h];rfl
theorem LW {l : List UInt8} {r : List Sp} {st : Nat × Nat} : rZ l r 0 st = if st.2 = 0 ∧ st.1 = l.length then (r, 0) else ([], 30) := by
 unfold rZ;rw [mg];simp
theorem FX {w : World} {v : Value} {l : List UInt8} (hv : By w v l) (hl : l.length ≤ 1100000) {R : List Sp} {E : Nat} (hR : eT l = (R, E)) :
  Calls prog 106 #[v] w fun e w' => ∃ v', e = .returned (.tuple #[v', .int .i64 (E : Int)]) ∧ aI w.heap.size w' v' R ∧ Below w.heap.size w w' := by
 obtain ⟨p, n, c, rfl⟩ := hv.sl;have HV := af hv;have HR := af hR;clear hv hR;go_enter func106, ntmps106
 go_wp2_with fail
 refine (je HV.out (by omega)).mono ?_;rintro e1 w1 ⟨g, u, rfl, sV, hs, hu, aN, hb⟩;obtain ⟨q1, m1, c1, rfl⟩ := hu.bp.sl;have Aw := hu.bp.len.1;have VJ := af Aw;have HU := af hu;have HS := af hs;have jd := af aN;have HB := af hb;have HWG := af sV;clear hu hs aN hb sV Aw;obtain ⟨N, a0, E0, hN⟩ : ∃ n a e, nx l (0, 0) = (n, a, e) := ⟨_, _, _, rfl⟩
 have xA := (av (l := l) (st := (0, 0)) (adq _))
 rw [hN] at xA;dsimp only at xA;have vr := af hN;clear hN;go_wp2_with fail
 refine (ay HS.out HU.out.bp (adq _) (show _ = (N, a0, E0) from vr.out)).mono ?_;rintro e2 w2 ⟨rfl, eF, dO⟩;have vB := af eF;have rV := af dO;clear eF dO;go_wp2_with fail
 have aS := af (show w.heap.size ≤ w1.heap.size from HB.out.size);have hug : g < w1.heap.size := HS.out.lt;have HUG := af hug;clear hug;have hstart : Hid (Sc w2 g (.slice q1 m1 c1) a0 E0 ∧ By w2 (.slice q1 m1 c1) l ∧ aI w1.heap.size w2 (.slice none 0 0) [] ∧ Below w.heap.size w w2 ∧ w1.grownBy w2 (some g) ∧ a0 ≤ l.length ∧ ([] : List Sp).length ≤ a0 ∧ rZ l [] (N - 0) (a0, E0) = (R, E)) := af ⟨vB.out, HU.out.bp.grown rV.out jd.out, aI.nil _ _, HB.out.grown rV.out aS.out (fun k hk => by injection hk with hk; have := HWG.out; omega), rV.out, xA.1, adq _, by rw [Nat.sub_zero, ← HR.out, TL, vr.out]⟩;go_loopw [5, 6, 11] (fun v _ c wr => ∃ (j : Nat) (r : List Sp) (a e : Nat), j ≤ N ∧ c = .int .i64 j ∧ Hid (Sc wr g (.slice q1 m1 c1) a e ∧ By wr (.slice q1 m1 c1) l ∧ aI w1.heap.size wr v r ∧ Below w.heap.size w wr ∧ w1.grownBy wr (some g) ∧ a ≤ l.length ∧ r.length ≤ a ∧ rZ l r (N - j) (a, e) = (R, E))) (fun _ _ c _ => N - (intOf c).toNat)
 case atStart => exact ⟨0, [], a0, E0, adq _, rfl, hstart⟩
 case round =>
  obtain ⟨j, r, a, e, hj, rfl, H⟩ := hrel;clear hstart;by_cases bd : (j : Int) < (N : Int)
  ·have F7 := LU (st := (a, e)) H.out.1 H.out.2.1 jd.out (by have := H.out.2.2.2.2.2.1; have := VJ.out; dsimp only; omega);have im := t6 l (a, e);obtain ⟨x, a', e', hx⟩ : ∃ x a' e', bM l (a, e) = (x, a', e') := ⟨_, _, _, rfl⟩
   have hlx := LR (l := l) (st := (a, e)) H.out.2.2.2.2.2.1;have hT : (x.ok = true → rZ l r (N - j) (a, e) = rZ l (r ++ [x]) (N - (j + 1)) (a', e')) ∧ (¬ x.ok = true → (R, E) = ([], 30)) := by
    have e1 : N - j = (N - (j + 1)) + 1 := by omega
    constructor
    ·intro hk;rw [e1, Pd (by rw [hx]; exact hk), hx]
    ·intro hk;rw [← H.out.2.2.2.2.2.2.2, e1, LV (by rw [hx]; simpa using hk)]
   have F8 : x.ok = true → a < a' ∧ e = 0 := by
    intro hk;have he : e = 0 := by
     by_cases he : e = 0
     ·exact he
     ·have := I5 (l := l) (a := a) he;rw [hx] at this;rw [this] at hk;cases hk
    subst he;exact ⟨(tN hx H.out.2.2.2.2.2.1 hk).2.1, rfl⟩
   rw [hx] at F7 im hlx;dsimp only at F7 im hlx;have HX := af F7;have HT := af hT;have HF := af F8;have jC := af (kq x im);have HLX := af hlx;have qw := af (fun W => az W x);clear F7 im hx hlx hT F8;by_cases aT : x.ok = true
   ·have fh := af aT;rw [acW aT] at jC;obtain ⟨t, i, p', s, en, nm⟩ := x;dsimp only at *;unfold dZ at *;clear aT;go_wp2_with fail
    refine HX.out.mono ?_;rintro e3 w3 ⟨rfl, jH, fE⟩;have Ar := af jH;have wv := af fE;clear jH fE;go_wp2_with fail
    refine (jC.out _).mono ?_;rintro e4 w4 ⟨rfl, bY⟩;obtain ⟨d0, d1, d2, d3, d4, d5⟩ := ((qw.out w3).below bY).z;dsimp only at d0 d1 d2 d3 d4 d5;have oy : Below w3.heap.size w3 w4 := ((acG _ _).alloc (acE _) _).trans (bY.mono (by simp));have aM : aI w1.heap.size w4 u5 r := by
     have h1 := H.out.2.2.1;have h2 := h1.grown wv.out (by
      cases FE : u5.ownBlock with
      | none => exact .inl rfl
      | some k =>
       refine .inr fun e => ?_;injection e with e;have := (h1.lt k FE).1;have := HUG.out;omega)
     exact h2.below oy
    have jD : wr.grownBy w4 (some g) := aJ wv.out ⟨oy.os, oy.tape, oy.output, oy.size, fun k hk _ => oy.block k hk⟩;have XW : Sc w4 g (.slice q1 m1 c1) a' e' := by
     have h1 := Ar.out;unfold Sc at h1 ⊢;rw [oy.block g Ar.out.lt];exact h1
    have XY := H.out.2.1.grown jD jd.out;have XZ : Below w.heap.size w w4 := H.out.2.2.2.1.grown jD H.out.2.2.2.1.size (fun k hk => by injection hk with hk; have := HWG.out; omega);have ib := af aM;have X0 := af XW;have aaT := af XY;have TN := af XZ;have EP := af (aJ H.out.2.2.2.2.1 jD);have X1 : w1.heap.size ≤ w4.heap.size := EP.out.size;have I6 : r.length ≤ 1100000 := by have := H.out.2.2.2.2.2.1; have := H.out.2.2.2.2.2.2.1; omega
    have Ex := af I6;have aaU := af X1;clear bY oy aM jD XW XY XZ I6 X1;go_wp2_with (at_builtin; go_must (refine dI (v := u5) rfl _ _ rfl rfl ⟨t, i, p', s, en, nm⟩ rfl rfl ib.out aaU.out Ex.out ?_); intro v5 w5 bP aL ik)
    go_roundw;case rel =>
     have hold : ∀ k, u5.ownBlock = some k → w1.heap.size ≤ k := fun k hk => (ib.out.lt k hk).1;refine ⟨j + 1, r ++ [⟨t, i, p', s, en, nm⟩], a', e', by omega, by go_num, af ⟨?_, ?_, bP, ?_, ?_, ?_, ?_, ?_⟩⟩
     ·have h1 := X0.out;unfold Sc at h1 ⊢;rw [ik.block g X0.out.lt (fun e => by have := hold g e.symm; have := HUG.out; omega)];exact h1
     ·refine aaT.out.grown ik ?_;rcases HU.out with ⟨_, h0⟩ | ⟨gg, cap, eq, V8, hPl, hm, rX, eF, Qu⟩
      ·exact .inl h0
      ·by_cases h0 : l = []
       ·exact .inl h0
       ·refine .inr fun k hk e => ?_;injection eq with eq1;subst eq1;simp only [Value.ownBlock, adp] at hk;subst hk;have h1 := hold gg e;have hPp : 0 < l.length := adP.2 h0;have := lt_of_cell (rX 0 l[0] (acF hPp));simp only at this;omega
     ·exact TN.out.trans (aL.mono (Nat.le_of_lt_succ (by have := aS.out; omega)))
     ·exact ⟨ik.os.trans EP.out.os, ik.tape.trans EP.out.tape, ik.output.trans EP.out.output, acN EP.out.size ik.size, fun k hk hr => (ik.block k (acV hk EP.out.size) (fun e => by have := hold k e.symm; omega)).trans (EP.out.block k hk hr)⟩
     ·exact HLX.out
     ·have h1 := (HF.out fh.out).1;have h2 := H.out.2.2.2.2.2.2.1;rw [acH];simp only [acZ, ad8];omega
     ·rw [← HT.out.1 fh.out];exact H.out.2.2.2.2.2.2.2
    case measure => simp [intOf]; omega
   ·have Dt := HT.out.2 aT;simp only [acT] at Dt;obtain ⟨rfl, rfl⟩ := Dt;rw [acO aT] at jC;obtain ⟨t, i, p', s, en, nm⟩ := x;dsimp only at *;unfold dZ at *;clear aT;go_wp2_with fail
    refine HX.out.mono ?_;rintro e3 w3 ⟨rfl, jH, fE⟩;have wv := af fE;clear jH fE;go_wp2_with fail
    refine (jC.out _).mono ?_;rintro e4 w4 ⟨rfl, bY⟩;have oy : Below w3.heap.size w3 w4 := ((acG _ _).alloc (acE _) _).trans (bY.mono (by simp));have jD : wr.grownBy w4 (some g) := aJ wv.out ⟨oy.os, oy.tape, oy.output, oy.size, fun k hk _ => oy.block k hk⟩;have TN := af (show Below w.heap.size w w4 from H.out.2.2.2.1.grown jD H.out.2.2.2.1.size (fun k hk => by injection hk with hk; have := HWG.out; omega));clear bY oy jD;go_wp2;go_ret2
    exact ⟨_, rfl, aI.nil _ _, TN.out⟩
  ·have Ri : j = N := by omega
   subst Ri;have Cc := H.out.2.2.2.2.2.2.2;rw [afa, LW] at Cc;dsimp only at Cc;have HE := af Cc;clear Cc;obtain ⟨E1, Qp⟩ : ∃ E1, Lw a m1 e = E1 := ⟨_, rfl⟩
   have K9 := H.out.2.2.2.2.2.1;have aaV := af (BI H.out.1 (by have := VJ.out; omega) H.out.2.1.jZ Qp);have ER := Qp;unfold Lw at ER;go_wp2_with fail
   refine aaV.out.mono ?_;rintro e3 w3 ⟨rfl, jH, fE⟩;have X2 := af (show Below w.heap.size w w3 from H.out.2.2.2.1.grown fE H.out.2.2.2.1.size (fun k hk => by injection hk with hk; have := HWG.out; omega));have ib := af (show aI w.heap.size w3 u5 r from ((H.out.2.2.1.grown fE (by
      cases FE : u5.ownBlock with
      | none => exact .inl rfl
      | some k =>
       refine .inr fun e => ?_;injection e with e;have := (H.out.2.2.1.lt k FE).1;have := HUG.out;omega)).mono aS.out))
   clear jH fE;by_cases hE : E1 = 0
   ·subst hE;have hc : e = 0 ∧ a = l.length := by
     have := VJ.out
     split at ER
     ·omega
     ·split at ER
      ·omega
      ·exact ⟨by omega, by omega⟩
    have Dt := HE.out;rw [acW hc] at Dt;simp only [acT] at Dt;obtain ⟨rfl, rfl⟩ := Dt;clear ER Qp K9;go_wp2;go_ret2
    exact ⟨_, rfl, ib.out, X2.out⟩
   ·have hc : ¬ (e = 0 ∧ a = l.length) := by
     have := VJ.out;rintro ⟨h1, h2⟩;rw [acO (by omega), acO (by omega)] at ER;exact hE ER.symm
    have Dt := HE.out;rw [acO hc] at Dt;simp only [acT] at Dt;obtain ⟨rfl, rfl⟩ := Dt;have g1 : ((E1 : Int) != 0) = true := by simp; omega
    clear ER Qp K9;go_wp2;go_ret2
    exact ⟨_, rfl, aI.nil _ _, X2.out⟩
theorem Own.aaW (w : World) : Own w.heap.size (w.alloc (.cells #[] 5)) (.slice (some ⟨w.heap.size, 0, none⟩) 0 0) [] :=
 .inr ⟨w.heap.size, 0, rfl, acE _, acE _, by simp [maxLen], by simp, fun i h => by omega, fun i h => by omega⟩
theorem El {w : World} {v : Value} {l : List UInt8} (h : By w v l) (hl : l.length ≤ 1100000) : Calls prog 24 #[v] w fun e w' => ∃ p n c, e = .returned (.slice p n c) ∧ Own w.heap.size w' (.slice p n c) l ∧ Below w.heap.size w w' := by
 have qsp : ∀ (w : World) (a : Option Addr) (n c n' c' : Nat), (binOp .eql 32 (.slice a n c) (.slice none n' c')).run prog w = .ok (.bool a.isNone) w := fun w a n c n' c' => Lib.run_eql_slice_nil w _ _ a n c n' c' adu;obtain ⟨p, n, c, rfl⟩ := h.sl;cases p with
 | none =>
  have hn : l = [] := by
   obtain ⟨p', c', e, hl, hm, hn, hc⟩ := h;injection e with e1 e2 e3;exact acP (by have := hn e1.symm; omega)
  subst hn;have HB := af (acG w.heap.size w);clear h hl;go_enter func24, ntmps24
  go_wp2;go_ret;exact ⟨_, _, _, rfl, Own.nil _ _, HB.out⟩
 | some a =>
  have bE := (acG w.heap.size w).alloc (acE _) (.cells #[] 5);have HEE := af (h.below bE);have SQ := af (Own.aaW w);have QS := af bE;have ZH := af hl;clear bE h hl;go_enter func24, ntmps24
  go_wp2_with (at_builtin; go_loud (refine kz rfl (.tmp 5) (.tmp 6) rfl rfl (v := .slice (some ⟨w.heap.size, 0, none⟩) 0 0) (y := .slice (some a) n c) (l := []) (m := l) (B := w.heap.size) rfl rfl SQ.out HEE.out (by have := ZH.out; simp; omega) QS.out.size ?_); intro v4 w4 iP lz bY hk4; rw [adE] at iP; have Hh := af iP; have dL := af (QS.out.trans bY); obtain ⟨p4, n4, c4, rfl⟩ := iP.bp.sl; clear iP lz bY hk4)
  go_ret;exact ⟨_, _, _, rfl, Hh.out, dL.out⟩
end Go.Proofs.YtionbmlicmibgaaGreatDoor
