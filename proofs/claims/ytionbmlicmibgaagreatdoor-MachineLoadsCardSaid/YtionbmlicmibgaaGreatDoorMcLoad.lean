import Derived.Test.YtionbmlicmibgaaGreatDoorMcMay
set_option linter.unusedVariables false
set_option linter.unusedSimpArgs false
namespace Go.Proofs.YtionbmlicmibgaaGreatDoor
open Go.Proofs.Tryz
open Go.RowKit
def AJ (l : List UInt8) : Nat := (nx l (0, 0)).1
def Qo (l : List UInt8) : Nat × Nat := (nx l (0, 0)).2
def yJ (l : List UInt8) : Nat := (nx l (Qo l)).1
def JW (l : List UInt8) : Nat × Nat := (nx l (Qo l)).2
def Km (l : List UInt8) : List Int := (G_ l (JW l)).1
def RY (l : List UInt8) : Nat × Nat := (G_ l (JW l)).2
def DJ (l : List UInt8) : List UInt8 := (tx l (l.length - (RY l).1) (RY l)).1
def Wh (l : List UInt8) : Nat × Nat := (tx l (l.length - (RY l).1) (RY l)).2
def Qn (l : List UInt8) : List UInt8 := (tx l (l.length - (Wh l).1) (Wh l)).1
noncomputable def FH (l : List UInt8) (L : List St) : Mp := ⟨(AJ l : Nat), (yJ l : Nat), Km l, wj (DJ l), L⟩
def aao (w : World) (l : List UInt8) (e : Ending) (w' : World) : Prop :=
 (br (wj (DJ l)) = DJ l ∧ ∃ L P, loadT (Qn l) = some L ∧ e = .returned (.tuple #[.pointer (some ⟨P.gi, 0, none⟩), .int .i64 0]) ∧ En w' P (FH l L) ∧ (∀ k, kU P k → w.heap.size ≤ k)) ∨
 (¬ (br (wj (DJ l)) = DJ l ∧ (loadT (Qn l)).isSome = true) ∧ ∃ x : Int, x ≠ 0 ∧ e = .returned (.tuple #[.pointer none, .int .i64 x]))
def gY (w : World) (b : Nat) (v0 v1 : Value) (i t : Int) (v4 : Value) : Prop := w.heap[b]? = some (.cells #[v0, v1, .int .i64 i, .int .i64 t, v4] 131 (0, 0))
section
variable {w w' : World} {b : Nat} {v0 v1 v4 : Value} {i t : Int}
theorem gY.fr (h : gY w b v0 v1 i t v4) (k : Nat) : w.frozen? ⟨b, k, none⟩ = false := acI w b k _ 131 h
theorem gY.lt (h : gY w b v0 v1 i t v4) : b < w.heap.size := lt_of_cell (acC w b 0 _ 131 (0, 0) h)
theorem gY.below (h : gY w b v0 v1 i t v4) (hb : Below w.heap.size w w') : gY w' b v0 v1 i t v4 := (hb.block b h.lt).trans h
theorem gY.grown {row : Option Nat} (h : gY w b v0 v1 i t v4) (hg : w.grownBy w' row) (aN : row ≠ some b) : gY w' b v0 v1 i t v4 := (hg.block b h.lt (fun e => aN e.symm)).trans h
theorem gY.set0 (h : gY w b v0 v1 i t v4) (x : Value) : gY (w.setCell ⟨b, 0, none⟩ x) b x v1 i t v4 := by unfold gY at *; rw [acK w b 0 _ 131 _ h]; rfl
theorem gY.set1 (h : gY w b v0 v1 i t v4) (x : Value) : gY (w.setCell ⟨b, 1, none⟩ x) b v0 x i t v4 := by unfold gY at *; rw [acK w b 1 _ 131 _ h]; rfl
theorem gY.new (w : World) : gY (w.alloc (.cells #[v0, v1, .int .i64 i, .int .i64 t, v4] 131)) w.heap.size v0 v1 i t v4 := acQ _ _
theorem gY.c (h : gY w b v0 v1 i t v4) : w.cell? ⟨b, 0, none⟩ = some v0 ∧ w.cell? ⟨b, 1, none⟩ = some v1 ∧ w.cell? ⟨b, 2, none⟩ = some (.int .i64 i) ∧ w.cell? ⟨b, 3, none⟩ = some (.int .i64 t) ∧ w.cell? ⟨b, 4, none⟩ = some v4 := ⟨acC w b 0 _ 131 (0, 0) h, acC w b 1 _ 131 (0, 0) h, acC w b 2 _ 131 (0, 0) h, acC w b 3 _ 131 (0, 0) h, acC w b 4 _ 131 (0, 0) h⟩
end
theorem KV {w a b : World} (h : Below w.heap.size w a) (k : Below a.heap.size a b) : Below w.heap.size w b := h.trans (k.mono h.size)
set_option maxRecDepth 200000 in
set_option maxHeartbeats 16000000 in
theorem Hu {w0 w : World} {g : Nat} {p : Option Addr} {n c : Nat} {l : List UInt8} (hE : ko w0) (h : rS w0 g (.slice p n c) l w (0, 0)) (hl : l.length ≤ 400000) : Calls prog 88 #[.pointer (some ⟨g, 0, none⟩)] w fun e w' => aao w l e w' ∧ Below w0.heap.size w0 w' ∧ w.grownBy w' (some g) := by
 have HL := af (acD h.sc.lt (acD h.bp.Qv (acD h.b.size hl)));have HE := af hE;have N1 := af (ek h);obtain ⟨s1, dR⟩ : ∃ s, Qo l = s := ⟨_, rfl⟩
 obtain ⟨IX, vw⟩ : ∃ s, AJ l = s := ⟨_, rfl⟩
 have aap := (av (l := l) (st := (0, 0)) (adq _)).2;rw [show (nx l (0, 0)).1 = IX from vw] at aap;rw [show (nx l (0, 0)).2 = s1 from dR, show (nx l (0, 0)).1 = IX from vw] at N1;clear h hE;go_enter func88, ntmps88
 go_wp2_with fail
 refine N1.out.mono ?_;rintro e w1 ⟨rfl, aK, eQ⟩;have N2 := af (ek aK);have H1 := af (acD aK eQ);obtain ⟨s2, eF⟩ : ∃ s, JW l = s := ⟨_, rfl⟩
 obtain ⟨TM, wm⟩ : ∃ s, yJ l = s := ⟨_, rfl⟩
 have e1 : nx l s1 = (TM, s2) := by rw [← eF, ← wm, ← dR]; rfl
 rw [e1] at N2;have aaq := (av (l := l) (st := s1) aK.at_).2;rw [e1] at aaq;clear aK eQ N1 e1;go_wp2_with fail
 refine N2.out.mono ?_;rintro e w2 ⟨rfl, aP, dO⟩;have N3 := af (rj aP);have H2 := af (acD aP (aJ H1.out.2 dO));obtain ⟨s3, jH⟩ : ∃ s, RY l = s := ⟨_, rfl⟩
 obtain ⟨VO, hVO⟩ : ∃ s, Km l = s := ⟨_, rfl⟩
 have e2 : G_ l s2 = (VO, s3) := by rw [← jH, ← hVO, ← eF]; rfl
 rw [e2] at N3;clear aP dO N2 e2;go_wp2_with fail
 refine N3.out.mono ?_;rintro e w3 ⟨qv, mv, fv, rfl, kY, cF, fE⟩;have sW : Hid (bJ w.heap.size w3 (.slice qv mv fv) VO) := af (kY.mono H2.out.2.size);have H3 := af (acD cF (aJ H2.out.2 fE));clear kY cF fE N3;go_upto_region 3 with fail
 obtain ⟨X, hX⟩ : ∃ X, w3.alloc (.cells #[.pointer none, .pointer none, .int .i64 (IX : Nat), .int .i64 (TM : Nat), .slice qv mv fv] 131) = X := ⟨_, rfl⟩
 obtain ⟨gi, vp⟩ : ∃ gi, w3.heap.size = gi := ⟨_, rfl⟩
 have oK : Below w3.heap.size w3 X := by rw [← hX]; exact (acG _ _).alloc (acE _) _
 have Hv : gY X gi (.pointer none) (.pointer none) (IX : Nat) (TM : Nat) (.slice qv mv fv) := by rw [← hX, ← vp]; exact gY.new w3
 have HX := af (acD (H3.out.1.below oK) (acD (aJ H3.out.2 (Sw oK _)) (acD Hv (sW.out.below oK))));have Dh : Hid (w.heap.size ≤ gi ∧ g < gi ∧ w3.heap.size = gi) := af ⟨by rw [← vp]; exact H3.out.2.size, by have := HL.out.1; have := H3.out.2.size; omega, vp⟩;rw [hX, vp];clear hX vp oK Hv;have T1 := af (qh HX.out.1 (by have := HL.out.2.2.2; omega));obtain ⟨s4, J1⟩ : ∃ s, Wh l = s := ⟨_, rfl⟩
 obtain ⟨TX, Ol⟩ : ∃ s, DJ l = s := ⟨_, rfl⟩
 have e3 : tx l (l.length - s3.1) s3 = (TX, s4) := by rw [← J1, ← Ol, ← jH]; rfl
 rw [e3] at T1;have aar := sC (l := l) (most := l.length - s3.1) (st := s3);rw [e3] at aar;clear e3;go_wp2_with fail
 refine T1.out.mono ?_;rintro e w4 ⟨q4, m4, f4, rfl, iP, bY, lz⟩;have H4 := af (acD bY (acD (aJ HX.out.2.1 lz) (acD (HX.out.2.2.1.grown lz (by have := Dh.out.2; intro e; injection e with e; omega)) (HX.out.2.2.2.grown lz (HX.out.2.2.2.xh HL.out.1)))));have Om := af (Hw iP.bp (by have := HL.out.2.2.2; omega));clear iP bY lz T1;go_wp2_with fail
 refine Om.out.mono ?_;intro e w5 hp;rcases hp with ⟨oh, gs, bm, R, rfl, Hy, Hz, KW, aL⟩ | ⟨oh, rfl, aL⟩;case inr =>
  have H5 := af (acD (H4.out.1.below aL) (acD (aJ H4.out.2.1 (Sw aL _)) (H4.out.2.2.1.below aL)));have A9 := af oh;have HS := af (acD J1 Ol);clear aL oh Om;obtain ⟨z0, z1, z2, z3, z4⟩ := H5.out.2.2.c;have JZ := H5.out.2.2.fr 0;go_upto_region 4 with fail
  have hst := H5.out.2.2.set0 (.pointer none);have hcs := aC w5 gi 0 (.pointer none);obtain ⟨Y, hY⟩ : ∃ Y, w5.setCell ⟨gi, 0, none⟩ (.pointer none) = Y := ⟨_, rfl⟩
  rw [hY] at hst hcs ⊢;have HY := af (acD hst hcs);clear hst hcs hY z0 z1 z2 z3 z4 JZ;go_wp2_with fail
  refine ac0 (v := .tuple #[.pointer none, .int .i64 70]) (by simp [results, results88, go_sem]) rfl ?_;refine ⟨.inr ⟨fun hh => ?_, 70, by decide, rfl⟩, ?_, ?_⟩
  ·rw [HS.out.2] at hh;exact A9.out hh.1
  ·exact ak.aZ H5.out.1.b HY.out.2 (fun k e => by have := Dh.out.1; have := HL.out.2.2.1; omega)
  ·exact A1 H5.out.2.1 (bV (B := w.heap.size) HY.out.2 (fun k e => by have := Dh.out.1; omega) H5.out.2.1.size)
 case inl =>
  have Ap := af (acD Hy (acD Hz (acD KW aL.size)));have H5 := af (acD (H4.out.1.below aL) (acD (aJ H4.out.2.1 (Sw aL _)) (acD (H4.out.2.2.1.below aL) (H4.out.2.2.2.below aL))));have A9 := af oh;have Nx : Hid (gi < w4.heap.size) := af H4.out.2.2.1.lt;clear aL oh Om Hy Hz KW;obtain ⟨z0, z1, z2, z3, z4⟩ := H5.out.2.2.1.c;have JZ := H5.out.2.2.1.fr 0;go_upto_region 4 with fail
  have hst := H5.out.2.2.1.set0 (.pointer (some ⟨gs, 0, none⟩));have hcs := aC w5 gi 0 (.pointer (some ⟨gs, 0, none⟩));obtain ⟨Y, hY⟩ : ∃ Y, w5.setCell ⟨gi, 0, none⟩ (.pointer (some ⟨gs, 0, none⟩)) = Y := ⟨_, rfl⟩
  rw [hY] at hst hcs ⊢;have Ve : Hid (w5.heap.size ≤ Y.heap.size) := af hcs.size;have gZ : Below gi w5 Y := bV hcs (fun k e => Nat.le_of_eq e.symm) (afe H5.out.2.2.1.lt);have HY : Hid (gY Y gi (.pointer (some ⟨gs, 0, none⟩)) (.pointer none) (IX : Nat) (TM : Nat) (.slice qv mv fv) ∧ rS w0 g (.slice p n c) l Y s4 ∧ w.grownBy Y (some g) ∧ bR Y gs bm R ∧ bJ w.heap.size Y (.slice qv mv fv) VO) := af ⟨hst, H5.out.1.later gZ Dh.out.2.1 (by
    rcases HL.out.2.1 with e | e
    ·exact .inl e
    ·exact .inr fun k hk => by have := e k hk; have := Dh.out.1; omega) (by have := HL.out.2.2.1; have := Dh.out.1; omega), A1 H5.out.2.1 (gZ.mono Dh.out.1), Ap.out.1.aU hcs (fun k hk e => by have := Ap.out.2.2.1 k hk; have := Nx.out; omega), H5.out.2.2.2.yT hcs (fun k hk e => by have h1 := (sW.out.lt k hk).2; have h2 := Dh.out; omega)⟩
  clear hst hcs hY gZ z0 z1 z2 z3 z4 JZ;go_upto_region 6 with fail
  have T2 := af (qh HY.out.2.1 (by have := HL.out.2.2.2; omega));obtain ⟨s5, lC⟩ : ∃ s, (tx l (l.length - s4.1) s4).2 = s := ⟨_, rfl⟩
  obtain ⟨TY, QB⟩ : ∃ s, Qn l = s := ⟨_, rfl⟩
  have e3 : tx l (l.length - s4.1) s4 = (TY, s5) := by rw [← lC, ← QB, ← J1]; rfl
  rw [e3] at T2;have aas := sC (l := l) (most := l.length - s4.1) (st := s4);rw [e3] at aas;clear e3 lC;go_wp2_with fail
  refine T2.out.mono ?_;rintro e w6 ⟨q6, m6, f6, rfl, cw, bK, eM⟩;have ZB : Hid (w4.heap.size ≤ Y.heap.size ∧ Y.heap.size ≤ w6.heap.size ∧ ∀ k, mT gs bm R k → w4.heap.size ≤ k ∧ k < Y.heap.size) := af ⟨by have h1 := Ap.out.2.2.2; have h2 := Ve.out; omega, eM.size, fun k hk => ⟨Ap.out.2.2.1 k hk, HY.out.2.2.2.1.lt k hk⟩⟩;have H6 : Hid (gY w6 gi (.pointer (some ⟨gs, 0, none⟩)) (.pointer none) (IX : Nat) (TM : Nat) (.slice qv mv fv) ∧ w.grownBy w6 (some g) ∧ bR w6 gs bm R ∧ bJ w.heap.size w6 (.slice qv mv fv) VO ∧ Below w0.heap.size w0 w6) := af ⟨HY.out.1.grown eM (by have := Dh.out.2.1; intro e; injection e with e; omega), aJ HY.out.2.2.1 eM, HY.out.2.2.2.1.aU (ak.aV eM (fun k => k = g) (fun k e => by injection e with e; exact .inl e.symm)) (fun k hk e => by have h1 := (ZB.out.2.2 k hk).1; have h2 := Nx.out; have h3 := Dh.out.2.1; omega), HY.out.2.2.2.2.grown eM (HY.out.2.2.2.2.xh HL.out.1), bK.b⟩;have U7 := af (y_ cw.bp (by have := HL.out.2.2.2; omega));clear cw bK eM T2;go_wp2_with fail
  refine U7.out.mono ?_;intro e w7 hp;cases On : loadT TY with
  | none =>
   rw [On] at hp;obtain ⟨rfl, cZ⟩ := hp;have H7 := af (acD (H6.out.1.below cZ) (acD (aJ H6.out.2.1 (Sw cZ _)) (KV H6.out.2.2.2.2 cZ)));have vy := af On;have HS := af (acD Ol QB);clear cZ U7 On;obtain ⟨z0, z1, z2, z3, z4⟩ := H7.out.1.c;have J0 := H7.out.1.fr 1;go_upto_region 7 with fail
   have hst := H7.out.1.set1 (.pointer none);have hcs := aC w7 gi 1 (.pointer none);obtain ⟨Z, hZ⟩ : ∃ Z, w7.setCell ⟨gi, 1, none⟩ (.pointer none) = Z := ⟨_, rfl⟩
   rw [hZ] at hst hcs ⊢;have HZ := af (acD hst hcs);clear hst hcs hZ z0 z1 z2 z3 z4 J0;go_wp2_with fail
   refine ac0 (v := .tuple #[.pointer none, .int .i64 83]) (by simp [results, results88, go_sem]) rfl ?_;refine ⟨.inr ⟨fun hh => ?_, 83, by decide, rfl⟩, ?_, ?_⟩
   ·rw [HS.out.2, vy.out] at hh;simp at hh
   ·exact ak.aZ H7.out.2.2 HZ.out.2 (fun k e => by have := Dh.out.1; have := HL.out.2.2.1; omega)
   ·exact A1 H7.out.2.1 (bV (B := w.heap.size) HZ.out.2 (fun k e => by have := Dh.out.1; omega) H7.out.2.1.size)
  | some L =>
   rw [On] at hp;obtain ⟨rfl, Ny⟩ := hp;have cZ := Ny.below;have H7 := af (acD (H6.out.1.below cZ) (acD (aJ H6.out.2.1 (Sw cZ _)) (acD (KV H6.out.2.2.2.2 cZ) (acD (H6.out.2.2.1.below cZ) (acD (H6.out.2.2.2.1.below cZ) Ny.tb)))));have vy := af On;have HS := af (acD Ol QB);have HN := af (acD vw (acD wm hVO));have lQ := af (acD H6.out.1.lt cZ.size);clear cZ U7 On Ny;obtain ⟨z0, z1, z2, z3, z4⟩ := H7.out.1.c;have J0 := H7.out.1.fr 1;obtain ⟨bt, bG⟩ : ∃ b, w6.heap.size = b := ⟨_, rfl⟩
   obtain ⟨gt, JX⟩ : ∃ b, bt + 1 = b := ⟨_, rfl⟩
   rw [bG, JX] at H7 ⊢;have Se := af (acD bG JX);clear bG JX;go_upto_region 7 with fail
   have hst := H7.out.1.set1 (.pointer (some ⟨gt, 0, none⟩));have hcs := aC w7 gi 1 (.pointer (some ⟨gt, 0, none⟩));obtain ⟨Z, hZ⟩ : ∃ Z, w7.setCell ⟨gi, 1, none⟩ (.pointer (some ⟨gt, 0, none⟩)) = Z := ⟨_, rfl⟩
   rw [hZ] at hst hcs ⊢;have HZ := af (acD hst hcs);clear hst hcs hZ z0 z1 z2 z3 z4 J0;go_wp2_with fail
   refine ac0 (v := .tuple #[.pointer (some ⟨gi, 0, none⟩), .int .i64 0]) (by simp [results, results88, go_sem]) rfl ?_;have s1 := Dh.out;have s2 := ZB.out;have s3 := lQ.out;have s4 := Se.out;have s5 := Nx.out;have Nz : ∀ k, mT gs bm R k → gi < k ∧ k < bt ∧ k < gt := fun k hk => by have := s2.2.2 k hk; omega
   have Aq : ∀ k, (Value.slice qv mv fv).ownBlock = some k → w.heap.size ≤ k ∧ k < gi := fun k hk => by have h1 := (sW.out.lt k hk); omega
   have hw0 : 0 < w.heap.size := by have h1 := HE.out.pos; have h2 := HL.out.2.2.1; omega
   refine ⟨.inl ⟨by rw [HS.out.1]; exact A9.out, L, ⟨gi, gs, bm, gt, bt, R, .slice qv mv fv⟩, by rw [HS.out.2]; exact vy.out, rfl, ?_, ?_⟩, ?_, ?_⟩
   ·refine ⟨?_, H7.out.2.2.2.1.aU HZ.out.2 (fun k hk e => by have := Nz k hk; omega), ?_, H7.out.2.2.2.2.2.aU HZ.out.2 (fun e => by omega) (fun e => by omega), ?_, ?_, fun k hk => by have := Nz k hk; dsimp only; omega, ⟨by dsimp only; omega, by dsimp only; omega⟩, fun k hk => ?_, ?_⟩
    ·have h1 := HZ.out.1;unfold iq FH;dsimp only;rw [HN.out.1, HN.out.2.1];exact h1
    ·show R.map Tr.pl = wj (DJ l)
     rw [HS.out.1];exact Ap.out.2.1
    ·show bJ 0 Z (.slice qv mv fv) (Km l)
     rw [HN.out.2.2];exact (H7.out.2.2.2.2.1.yT HZ.out.2 (fun k hk e => by have := Aq k hk; omega)).mono (adq _)
    ·exact HE.out.below (ak.aZ H7.out.2.2.1 HZ.out.2 (fun k e => by have := HL.out.2.2.1; omega))
    ·have h1 := Aq k hk;exact ⟨by dsimp only; omega, by dsimp only; omega, by dsimp only; omega, fun e => by have := Nz k e; omega⟩
    ·intro k hk;rcases hk with e | e | e | e | e
     ·have e : k = gi := e; omega
     ·have e : k = gt := e; omega
     ·have e : k = bt := e; omega
     ·have := Nz k e; omega
     ·have := Aq k e; omega
   ·intro k hk;rcases hk with e | e | e | e | e
    ·have e : k = gi := e; omega
    ·have e : k = gt := e; omega
    ·have e : k = bt := e; omega
    ·have := Nz k e; omega
    ·have := Aq k e; omega
   ·exact ak.aZ H7.out.2.2.1 HZ.out.2 (fun k e => by have := HL.out.2.2.1; omega)
   ·exact A1 H7.out.2.1 (bV (B := w.heap.size) HZ.out.2 (fun k e => by omega) H7.out.2.1.size)
end Go.Proofs.YtionbmlicmibgaaGreatDoor
