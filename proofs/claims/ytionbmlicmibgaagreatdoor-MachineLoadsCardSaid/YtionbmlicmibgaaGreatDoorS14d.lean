import Derived.Test.YtionbmlicmibgaaGreatDoorS14
import Derived.Test.YtionbmlicmibgaaGreatDoorS11p
set_option linter.unusedVariables false
set_option linter.unusedSimpArgs false
namespace Go.Proofs.YtionbmlicmibgaaGreatDoor
def xR (l : List UInt8) (st : Nat × Nat) : Nat := (nx l (nx l (nx l (nx l (nx l st).2).2).2).2).1
def oA (l : List UInt8) (st : Nat × Nat) : Nat := (nx l (nx l (nx l (nx l st).2).2).2).1
def nW (l : List UInt8) (st : Nat × Nat) : Prop := (bM l st).2.2 = 0 ∧ xR l st ≤ 1099511627776 ∧ oA l st ≤ 1099511627776
instance (l : List UInt8) (st : Nat × Nat) : Decidable (nW l st) := by unfold nW; exact inferInstance
def zH (l : List UInt8) : Nat → Nat × Nat → Option (List Sp)
 | 0, st => some []
 | k + 1, st => if nW l st then (zH l k (bM l st).2).map fun r => (bM l st).1 :: r else none
def pC (l : List UInt8) (r : List Sp) (k : Nat) (st : Nat × Nat) : List Sp × Nat :=
 match zH l k st with
 | none => ([], 30)
 | some r' => if nH (r ++ r') = (l, 0) then (r ++ r', 0) else ([], 30)
def pD (l : List UInt8) : List Sp × Nat := pC l [] (nx l (0, 0)).1 (nx l (0, 0)).2
theorem Pe {l : List UInt8} {r : List Sp} {k : Nat} {st : Nat × Nat} (h : nW l st) : pC l r (k + 1) st = pC l (r ++ [(bM l st).1]) k (bM l st).2 := by
 unfold pC;rw [zH, acW h];cases zH l k (bM l st).2 with
 | none => rfl
 | some q => simp
theorem LX {l : List UInt8} {r : List Sp} {k : Nat} {st : Nat × Nat} (h : ¬ nW l st) : pC l r (k + 1) st = ([], 30) := by
 unfold pC;rw [zH, acO h]
theorem LY {l : List UInt8} {r : List Sp} {st : Nat × Nat} : pC l r 0 st = if nH r = (l, 0) then (r, 0) else ([], 30) := by
 unfold pC;rw [zH];simp
theorem Pf (l : List UInt8) (st : Nat × Nat) : (bM l st).1.s = oA l st ∧ (bM l st).1.e = tM (oA l st) (xR l st) := ⟨rfl, rfl⟩
theorem F9 {l : List UInt8} {st : Nat × Nat} (h : st.1 ≤ l.length) : xR l st < 9223372036854775808 ∧ oA l st < 9223372036854775808 :=
 ⟨(av (av (av (av (av h).1).1).1).1).2, (av (av (av (av h).1).1).1).2⟩
theorem Pg {l : List UInt8} {a : Nat} {x : Sp} {r : List UInt8} (hl : a ≤ l.length) (hx : x.ok = true) (h : l.drop a = x.bytes ++ r) : nW l (a, 0) := by
 have hN := me hl hx h;have hk := (Sp.aO x).1 hx;have bd := F9 (l := l) (st := (a, 0)) hl;obtain ⟨h1, h2⟩ := Pf l (a, 0);rw [hN] at h1 h2;dsimp only at h1 h2;have s1 := hk.s1;have s2 := hk.s2;have e2 := hk.e2;refine ⟨by rw [hN], ?_, by omega⟩;by_cases fj : oA l (a, 0) + xR l (a, 0) < 9223372036854775808
 ·rw [lg fj] at h2;omega
 ·have := BG bd.2 bd.1 (by omega);omega
theorem t7 {l : List UInt8} : ∀ (r : List Sp) {a : Nat} {z : List UInt8}, a ≤ l.length → (∀ x ∈ r, Sp.ok x = true) → l.drop a = (r.map Sp.bytes).flatten ++ z → zH l r.length (a, 0) = some r
 | [], a, z, _, _, _ => rfl
 | x :: r, a, z, ha, aT, h => by
  have hx := aT x (by simp);rw [ad7, aej, ac7] at h;have hlen := aec List.length h;rw [adg, acH, acH] at hlen;have hN := me ha hx h;rw [acZ, zH, acW (Pg ha hx h), hN];dsimp only;rw [t7 r (by omega) (fun y hy => aT y (by simp [hy])) (ai h)];rfl
theorem t8 {r : List Sp} {l : List UInt8} : nH r = (l, 0) ↔ (∀ x ∈ r, Sp.ok x = true) ∧ cN r = l := by
 unfold nH
 split
 ·rename_i h;rw [adl] at h;simp only [acT, and_true];exact ⟨fun e => ⟨h, e⟩, fun e => e.2⟩
 ·rename_i h;constructor
  ·intro e;simp at e
  ·rintro ⟨h1, _⟩;exact absurd (adl.2 h1) h
theorem Ga (l : List UInt8) : pg l (pD l).1 (pD l).2 := by
 have LZ : pD l = ([], 30) → pg l (pD l).1 (pD l).2 := by
  intro h;rw [h];refine .inr ⟨rfl, rfl, fun m hm aT e => ?_⟩;subst e;have h0 : (cN m).drop 0 = digits m.length ++ (m.map Sp.bytes).flatten := rfl;have h1 := au hm h0;have g1 := ai h0;have hl : (cN m).length = (digits m.length).length + (m.map Sp.bytes).flatten.length := by unfold cN; rw [acH]
  unfold pD at h;rw [h1] at h;dsimp only at h;unfold pC at h;rw [t7 m (z := []) (by omega) aT (by rw [g1, adh])] at h;dsimp only at h;rw [adE, acW (t8.2 ⟨aT, rfl⟩)] at h;simp at h
 cases hg : zH l (nx l (0, 0)).1 (nx l (0, 0)).2 with
 | none =>
  apply LZ;unfold pD pC;rw [hg]
 | some r =>
  by_cases hp : nH r = (l, 0)
  ·have : pD l = (r, 0) := by
    unfold pD pC;rw [hg];dsimp only;rw [adE, acW hp]
   rw [this];exact .inl ⟨rfl, (t8.1 hp).1, (t8.1 hp).2⟩
  ·apply LZ;unfold pD pC;rw [hg];dsimp only;rw [adE, acO hp]
open Go.RowKit
theorem Ph {l : List UInt8} {a e : Nat} (ha : a ≤ l.length) (h : nW l (a, e)) : e = 0 ∧ a < (bM l (a, e)).2.1 := by
 have h0 := h.1;unfold bM at h0 ⊢;obtain ⟨n1, a1, e1, h1⟩ : ∃ n a' e', nx l (a, e) = (n, a', e') := ⟨_, _, _, rfl⟩
 rw [h1] at h0 ⊢; dsimp only at h0 ⊢;obtain ⟨n2, a2, e2, h2⟩ : ∃ n a e, nx l (a1, e1) = (n, a, e) := ⟨_, _, _, rfl⟩
 rw [h2] at h0 ⊢; dsimp only at h0 ⊢;obtain ⟨n3, a3, e3, h3⟩ : ∃ n a e, nx l (a2, e2) = (n, a, e) := ⟨_, _, _, rfl⟩
 rw [h3] at h0 ⊢; dsimp only at h0 ⊢;obtain ⟨n4, a4, e4, h4⟩ : ∃ n a e, nx l (a3, e3) = (n, a, e) := ⟨_, _, _, rfl⟩
 rw [h4] at h0 ⊢; dsimp only at h0 ⊢;obtain ⟨n5, a5, e5, h5⟩ : ∃ n a e, nx l (a4, e4) = (n, a, e) := ⟨_, _, _, rfl⟩
 rw [h5] at h0 ⊢; dsimp only at h0 ⊢;obtain ⟨x6, a6, e6, h6⟩ : ∃ n a e, tx l 32 (a5, e5) = (n, a, e) := ⟨_, _, _, rfl⟩
 rw [h6] at h0 ⊢; dsimp only at h0 ⊢;subst h0;have keep : ∀ {st : Nat × Nat} {n a' : Nat}, nx l st = (n, a', 0) → st.2 = 0 := fun {st n a'} hh => by
  by_cases hz : st.2 = 0
  ·exact hz
  ·unfold nx at hh;rw [acW hz] at hh;simp only [acT] at hh;exact absurd hh.2.2 hz
 have E5 : e5 = 0 := by
  by_cases hz : e5 = 0
  ·exact hz
  ·unfold tx at h6;rw [acW hz] at h6;simp only [acT] at h6;exact absurd h6.2.2 hz
 subst E5;obtain rfl : e4 = 0 := keep h5;obtain rfl : e3 = 0 := keep h4;obtain rfl : e2 = 0 := keep h3;obtain rfl : e1 = 0 := keep h2;obtain rfl : e = 0 := keep h1;obtain ⟨-, b1, c1, d1, -⟩ := fN h1 ha;obtain ⟨-, b2, c2, -, -⟩ := fN h2 c1;obtain ⟨-, b3, c3, -, -⟩ := fN h3 c2;obtain ⟨-, b4, c4, -, -⟩ := fN h4 c3;obtain ⟨-, b5, c5, -, -⟩ := fN h5 c4;obtain ⟨-, b6, c6, -, -⟩ := zx h6 c5;dsimp only at *;refine ⟨rfl, ?_⟩;have := aec List.length d1;have hp := bZ n1;rw [adg, acH, adg] at this;omega
theorem bt {w a b : World} (h : Below w.heap.size w a) (h' : Below a.heap.size a b) : Below w.heap.size w b := h.trans (h'.mono h.size)
theorem dh {B : Nat} {w w' : World} {v : Value} {l : List Sp} {c : Nat} (h : aI B w v l) (hg : w.grownBy w' (some c)) (aN : ∀ k, v.ownBlock = some k → k ≠ c) : aI B w' v l :=
 h.grown hg (by
  cases FE : v.ownBlock with
  | none => exact .inl rfl
  | some k => exact .inr fun e => by injection e with e; exact aN k FE e)
theorem Sr.qF {w w' : World} {g b : Nat} {v : Value} {a E : Nat} (h : Sr w g v a E) (hg : w.grownBy w' (some b)) (aN : g ≠ b) : Sr w' g v a E := by
 unfold Sr at h ⊢;rw [hg.block g (lt_of_heap h) (by intro e; injection e with e; exact aN e)];exact h
set_option maxRecDepth 200000 in
set_option maxHeartbeats 4000000 in
theorem ES {w : World} {v : Value} {l : List UInt8} (hv : By w v l) (hl : l.length ≤ 65536) {R : List Sp} {E : Nat} (hR : pD l = (R, E)) :
  Calls Tryz.prog 71 #[v] w fun e w' => ∃ v', e = .returned (.tuple #[v', .int .i64 (E : Int)]) ∧ aI w.heap.size w' v' R ∧ Below w.heap.size w w' := by
 obtain ⟨q1, m1, c1, rfl⟩ := hv.sl;have VJ := af hv.len.1;have HR := af hR;have fA : ∀ k, (Value.slice q1 m1 c1).ownBlock = some k → l ≠ [] → k < w.heap.size := fun k hk aN => by
  obtain ⟨p', c', e2, _, _, _, hc⟩ := hv;injection e2 with e2;subst e2;cases hl : l with
  | nil => exact absurd hl aN
  | cons y r =>
   cases q1 with
   | none => cases hk
   | some ad =>
    simp only [Value.ownBlock, adp] at hk;have := lt_of_cell (hc ad rfl 0 y (by rw [hl]; rfl));rw [block_add] at this;omega
 have X3 := af fA;obtain ⟨g, hg⟩ : ∃ g, w.heap.size = g := ⟨_, rfl⟩
 obtain ⟨X, hX⟩ : ∃ X, w.alloc (.cells #[.slice q1 m1 c1, .int .i64 0, .int .i64 0] 121) = X := ⟨_, rfl⟩
 have hS : Sr X g (.slice q1 m1 c1) 0 0 := by rw [← hX, ← hg]; exact acQ w _
 have HS := af hS;have eI := af (show By X (.slice q1 m1 c1) l by rw [← hX]; exact hv.alloc _);have HB := af (show Below w.heap.size w X by rw [← hX]; exact (acG _ _).alloc (acE _) _);have jd := af (show l = [] ∨ ∀ k, (Value.slice q1 m1 c1).ownBlock = some k → some g ≠ some k by
  by_cases hz : l = []
  ·exact .inl hz
  ·refine .inr fun k hk e => ?_;injection e with e;have := X3.out k hk hz;omega)
 have HG := af hg;have Dk := af (show g < X.heap.size by rw [← hX, ← hg]; simp);have HXW := af (show X.heap.size = g + 1 by rw [← hX, ← hg]; simp);clear hv hR fA hS;obtain ⟨N, a0, E0, hN⟩ : ∃ n a e, nx l (0, 0) = (n, a, e) := ⟨_, _, _, rfl⟩
 have xA := (av (l := l) (st := (0, 0)) (adq _))
 rw [hN] at xA;dsimp only at xA;have vr := af hN;clear hN;go_enter Tryz.func71, Tryz.ntmps71
 go_wp2_with fail
 clear hX hg;refine (aY HS.out eI.out (adq _) (show _ = (N, a0, E0) from vr.out)).mono ?_;rintro e2 w2 ⟨rfl, eF, dO⟩;have vB := af eF;have rV := af dO;clear eF dO;go_wp2_with fail
 have hstart : Hid (Sr w2 g (.slice q1 m1 c1) a0 E0 ∧ By w2 (.slice q1 m1 c1) l ∧ aI X.heap.size w2 (.slice none 0 0) [] ∧ X.grownBy w2 (some g) ∧ a0 ≤ l.length ∧ ([] : List Sp).length ≤ a0 ∧ pC l [] (N - 0) (a0, E0) = (R, E) ∧ ∀ x ∈ ([] : List Sp), x.n.size ≤ 1100000) := af ⟨vB.out, eI.out.grown rV.out jd.out, aI.nil _ _, rV.out, xA.1, adq _, by rw [Nat.sub_zero, ← HR.out]; unfold pD; rw [vr.out], fun x hx => by cases hx⟩;go_loopw [6, 7, 8, 9] (fun v i _ _ wr => ∃ (j : Nat) (r : List Sp) (a e : Nat), j ≤ N ∧ i = .int .i64 j ∧ Hid (Sr wr g (.slice q1 m1 c1) a e ∧ By wr (.slice q1 m1 c1) l ∧ aI X.heap.size wr v r ∧ X.grownBy wr (some g) ∧ a ≤ l.length ∧ r.length ≤ a ∧ pC l r (N - j) (a, e) = (R, E) ∧ ∀ x ∈ r, x.n.size ≤ 1100000)) (fun _ i _ _ _ => N - (intOf i).toNat)
 case atStart => exact ⟨0, [], a0, E0, adq _, rfl, hstart⟩
 case round =>
  obtain ⟨j, r, a, e, hj, rfl, H⟩ := hrel;clear hstart;by_cases bd : (j : Int) < (N : Int)
  ·have lV := H.out.2.2.2.2.1;have L_ : N - j = (N - (j + 1)) + 1 := by omega
   have od := af L_;clear L_;obtain ⟨n1, a1, E1, h1⟩ : ∃ n a' E, nx l (a, e) = (n, a', E) := ⟨_, _, _, rfl⟩
   obtain ⟨n2, a2, E2, h2⟩ : ∃ n a E, nx l (a1, E1) = (n, a, E) := ⟨_, _, _, rfl⟩
   obtain ⟨n3, a3, E3, h3⟩ : ∃ n a E, nx l (a2, E2) = (n, a, E) := ⟨_, _, _, rfl⟩
   obtain ⟨n4, a4, E4, h4⟩ : ∃ n a E, nx l (a3, E3) = (n, a, E) := ⟨_, _, _, rfl⟩
   obtain ⟨n5, a5, E5, h5⟩ : ∃ n a E, nx l (a4, E4) = (n, a, E) := ⟨_, _, _, rfl⟩
   obtain ⟨T6, a6, E6, h6⟩ : ∃ n a E, tx l 32 (a5, E5) = (n, a, E) := ⟨_, _, _, rfl⟩
   have nO : bM l (a, e) = (⟨n1, n2, n3, n4, tM n4 n5, ⟨T6.toArray⟩⟩, a6, E6) := by
    unfold bM;rw [h1]; dsimp only;rw [h2]; dsimp only;rw [h3]; dsimp only;rw [h4]; dsimp only;rw [h5]; dsimp only;rw [h6]
   have Gb : xR l (a, e) = n5 ∧ oA l (a, e) = n4 := by
    unfold xR oA;rw [h1]; dsimp only;rw [h2]; dsimp only;rw [h3]; dsimp only;rw [h4]; dsimp only;rw [h5];exact ⟨rfl, rfl⟩
   have Pj := F9 (l := l) (st := (a, e)) lV;rw [Gb.1, Gb.2] at Pj;have hm : m1 = l.length := VJ.out;have l0 : a ≤ m1 := by omega
   have l1 : a1 ≤ m1 := by have := (av (l := l) (st := (a, e)) (by dsimp only; omega)).1; rw [h1] at this; dsimp only at this; omega
   have l2 : a2 ≤ m1 := by have := (av (l := l) (st := (a1, E1)) (by dsimp only; omega)).1; rw [h2] at this; dsimp only at this; omega
   have l3 : a3 ≤ m1 := by have := (av (l := l) (st := (a2, E2)) (by dsimp only; omega)).1; rw [h3] at this; dsimp only at this; omega
   have l4 : a4 ≤ m1 := by have := (av (l := l) (st := (a3, E3)) (by dsimp only; omega)).1; rw [h4] at this; dsimp only at this; omega
   have l5 : a5 ≤ m1 := by have := (av (l := l) (st := (a4, E4)) (by dsimp only; omega)).1; rw [h5] at this; dsimp only at this; omega
   have l6 : a6 ≤ l.length := by have := xl (l := l) (most := 32) (st := (a5, E5)) (by dsimp only; omega); rw [h6] at this; exact this
   have Rj : nW l (a, e) → e = 0 ∧ a < a6 := fun hf => by
    have := Ph lV hf;rw [nO] at this;exact this
   have HF := af (acD nO (acD Gb (acD Rj (acD l6 Pj))));have HH := af (acD h1 (acD h2 (acD h3 (acD h4 (acD h5 h6)))));clear h1 h2 h3 h4 h5 h6 nO Gb Pj Rj lV hm;go_wp2_with fail
   obtain ⟨b, hb⟩ : ∃ b, wr.heap.size = b := ⟨_, rfl⟩
   have nQ := H.out.2.2.2.1;have Ca : X.heap.size ≤ b := by rw [← hb]; exact nQ.size
   have Cb := af (show l = [] ∨ ∀ k, (Value.slice q1 m1 c1).ownBlock = some k → some b ≠ some k by
    by_cases hz : l = []
    ·exact .inl hz
    ·refine .inr fun k hk e => ?_;injection e with e;have := X3.out k hk hz;have h9 := HXW.out;have h8 := HG.out;omega)
   have jM := af (show g ≠ b by have := Dk.out; omega);have NL := af Ca;obtain ⟨Y0, hY0⟩ : ∃ Y, wr.alloc (.cells #[.int .i64 0, .int .i64 0, .int .i64 0, .int .i64 0, .int .i64 0, .string ⟨#[]⟩] 30) = Y := ⟨_, rfl⟩
   have Ax : Below wr.heap.size wr Y0 := by rw [← hY0]; exact (acG _ _).alloc (acE _) _
   have rF : Y0.heap[b]? = some (.cells #[.int .i64 0, .int .i64 0, .int .i64 0, .int .i64 0, .int .i64 0, .string ⟨#[]⟩] 30 (0, 0)) := by rw [← hY0, ← hb]; exact acQ wr _
   have zn := af (acD (show Sr Y0 g (.slice q1 m1 c1) a e by have h1 := H.out.1; unfold Sr at h1 ⊢; rw [Ax.block g (lt_of_heap h1)]; exact h1) (H.out.2.1.below Ax));have aaX := af (show X.grownBy Y0 (some g) from aJ nQ ⟨Ax.os, Ax.tape, Ax.output, Ax.size, fun k hk _ => Ax.block k hk⟩);have HZ0 := af rF;have X4 := af (H.out.2.2.1.below Ax);have mY := af hb;have zF := af (show ∀ k, u6.ownBlock = some k → k ≠ g from fun k hk e => by have := (H.out.2.2.1.lt k hk).1; have := Dk.out; omega);have b_ := af (show ∀ k, u6.ownBlock = some k → k ≠ b from fun k hk e => by have := (H.out.2.2.1.lt k hk).2; omega);rw [hY0, hb];clear nQ Ca Ax rF hY0 hb;refine (aY zn.out.1 zn.out.2 l0 (show _ = (n1, a1, E1) from HH.out.1)).mono ?_;rintro f1 V1 ⟨rfl, hs, hg⟩;have lM := (hg.block b (lt_of_heap HZ0.out) (by have := jM.out; intro e; injection e with e; exact this e.symm)).trans HZ0.out;have fr := acI V1 b 0 _ 30 lM;have zc : V1.cell? ⟨b, 0, none⟩ = some (.int .i64 0) := acC V1 b 0 _ 30 (0, 0) lM;obtain ⟨Y1, hY⟩ : ∃ Y, V1.setCell ⟨b, 0, none⟩ (.int .i64 (n1 : Int)) = Y := ⟨_, rfl⟩
   have rF : Y1.heap[b]? = some (.cells #[.int .i64 (n1 : Int), .int .i64 0, .int .i64 0, .int .i64 0, .int .i64 0, .string ⟨#[]⟩] 30 (0, 0)) := by rw [← hY, acK V1 b 0 _ 30 (.int .i64 (n1 : Int)) lM]; rfl
   have pE : V1.grownBy Y1 (some b) := by rw [← hY]; exact aj _ _ _ _
   have eL := af (acD (hs.qF pE jM.out) ((zn.out.2.grown hg jd.out).grown pE Cb.out));have aaY := af (show X.grownBy Y1 (some g) by rw [← hY]; exact ah (aJ aaX.out hg) NL.out);have kB := af (dh (dh X4.out hg zF.out) pE b_.out);have HZ1 := af rF;clear hs hg lM rF pE;go_wp2_with fail
   refine (aY eL.out.1 eL.out.2 l1 (show _ = (n2, a2, E2) from HH.out.2.1)).mono ?_;rintro f2 V2 ⟨rfl, hs, hg⟩;have lM := (hg.block b (lt_of_heap HZ1.out) (by have := jM.out; intro e; injection e with e; exact this e.symm)).trans HZ1.out;have fr := acI V2 b 1 _ 30 lM;have zc : V2.cell? ⟨b, 1, none⟩ = some (.int .i64 0) := acC V2 b 1 _ 30 (0, 0) lM;obtain ⟨Y2, hY⟩ : ∃ Y, V2.setCell ⟨b, 1, none⟩ (.int .i64 (n2 : Int)) = Y := ⟨_, rfl⟩
   have rF : Y2.heap[b]? = some (.cells #[.int .i64 (n1 : Int), .int .i64 (n2 : Int), .int .i64 0, .int .i64 0, .int .i64 0, .string ⟨#[]⟩] 30 (0, 0)) := by rw [← hY, acK V2 b 1 _ 30 (.int .i64 (n2 : Int)) lM]; rfl
   have pE : V2.grownBy Y2 (some b) := by rw [← hY]; exact aj _ _ _ _
   have vB := af (acD (hs.qF pE jM.out) ((eL.out.2.grown hg jd.out).grown pE Cb.out));have aaZ := af (show X.grownBy Y2 (some g) by rw [← hY]; exact ah (aJ aaY.out hg) NL.out);have t_ := af (dh (dh kB.out hg zF.out) pE b_.out);have Rk := af rF;clear hs hg lM rF pE;go_wp2_with fail
   refine (aY vB.out.1 vB.out.2 l2 (show _ = (n3, a3, E3) from HH.out.2.2.1)).mono ?_;rintro f3 V3 ⟨rfl, hs, hg⟩;have lM := (hg.block b (lt_of_heap Rk.out) (by have := jM.out; intro e; injection e with e; exact this e.symm)).trans Rk.out;have fr := acI V3 b 2 _ 30 lM;have zc : V3.cell? ⟨b, 2, none⟩ = some (.int .i64 0) := acC V3 b 2 _ 30 (0, 0) lM;obtain ⟨Y3, hY⟩ : ∃ Y, V3.setCell ⟨b, 2, none⟩ (.int .i64 (n3 : Int)) = Y := ⟨_, rfl⟩
   have rF : Y3.heap[b]? = some (.cells #[.int .i64 (n1 : Int), .int .i64 (n2 : Int), .int .i64 (n3 : Int), .int .i64 0, .int .i64 0, .string ⟨#[]⟩] 30 (0, 0)) := by rw [← hY, acK V3 b 2 _ 30 (.int .i64 (n3 : Int)) lM]; rfl
   have pE : V3.grownBy Y3 (some b) := by rw [← hY]; exact aj _ _ _ _
   have Ar := af (acD (hs.qF pE jM.out) ((vB.out.2.grown hg jd.out).grown pE Cb.out));have aa0 := af (show X.grownBy Y3 (some g) by rw [← hY]; exact ah (aJ aaZ.out hg) NL.out);have X5 := af (dh (dh t_.out hg zF.out) pE b_.out);have ZE := af rF;clear hs hg lM rF pE;go_wp2_with fail
   refine (aY Ar.out.1 Ar.out.2 l3 (show _ = (n4, a4, E4) from HH.out.2.2.2.1)).mono ?_;rintro f4 V4 ⟨rfl, hs, hg⟩;have lM := (hg.block b (lt_of_heap ZE.out) (by have := jM.out; intro e; injection e with e; exact this e.symm)).trans ZE.out;have fr := acI V4 b 3 _ 30 lM;have zc : V4.cell? ⟨b, 3, none⟩ = some (.int .i64 0) := acC V4 b 3 _ 30 (0, 0) lM;obtain ⟨Y4, hY⟩ : ∃ Y, V4.setCell ⟨b, 3, none⟩ (.int .i64 (n4 : Int)) = Y := ⟨_, rfl⟩
   have rF : Y4.heap[b]? = some (.cells #[.int .i64 (n1 : Int), .int .i64 (n2 : Int), .int .i64 (n3 : Int), .int .i64 (n4 : Int), .int .i64 0, .string ⟨#[]⟩] 30 (0, 0)) := by rw [← hY, acK V4 b 3 _ 30 (.int .i64 (n4 : Int)) lM]; rfl
   have pE : V4.grownBy Y4 (some b) := by rw [← hY]; exact aj _ _ _ _
   have Ew := af (acD (hs.qF pE jM.out) ((Ar.out.2.grown hg jd.out).grown pE Cb.out));have aa1 := af (show X.grownBy Y4 (some g) by rw [← hY]; exact ah (aJ aa0.out hg) NL.out);have X6 := af (dh (dh X5.out hg zF.out) pE b_.out);have HZ4 := af rF;clear hs hg lM rF pE;go_wp2_with fail
   refine (aY Ew.out.1 Ew.out.2 l4 (show _ = (n5, a5, E5) from HH.out.2.2.2.2.1)).mono ?_;rintro f5 V5 ⟨rfl, hs, hg⟩;have lM := (hg.block b (lt_of_heap HZ4.out) (by have := jM.out; intro e; injection e with e; exact this e.symm)).trans HZ4.out;have Ap := af (acD hs (Ew.out.2.grown hg jd.out));have aa2 := af (show X.grownBy V5 (some g) from aJ aa1.out hg);have Ma := af (dh X6.out hg zF.out);have HZ5 := af lM;clear hs hg lM fr zc;go_wp2_with fail
   refine (iw Ap.out.1 Ap.out.2 jd.out l5 32 32 (by decide) (T := T6) (A := a6) (E := E6) (by have := HH.out.2.2.2.2.2; rw [zm] at this; exact this)).mono ?_;rintro f6 V6 ⟨rfl, hs, hg⟩;have lM := (hg.block b (lt_of_heap HZ5.out) (by have := jM.out; intro e; injection e with e; exact this e.symm)).trans HZ5.out;have fr := acI V6 b 5 _ 30 lM;have zc : V6.cell? ⟨b, 5, none⟩ = some (.string ⟨#[]⟩) := acC V6 b 5 _ 30 (0, 0) lM;obtain ⟨Y6, hY⟩ : ∃ Y, V6.setCell ⟨b, 5, none⟩ (.string (str T6)) = Y := ⟨_, rfl⟩
   have rF : Y6.heap[b]? = some (.cells #[.int .i64 (n1 : Int), .int .i64 (n2 : Int), .int .i64 (n3 : Int), .int .i64 (n4 : Int), .int .i64 0, .string (str T6)] 30 (0, 0)) := by rw [← hY, acK V6 b 5 _ 30 (.string (str T6)) lM]; rfl
   have pE : V6.grownBy Y6 (some b) := by rw [← hY]; exact aj _ _ _ _
   have Il := hs.qF pE jM.out;have ce : Y6.cell? ⟨g, 2, none⟩ = some (.int .i64 (E6 : Int)) := Il.c2;have cs : Y6.cell? ⟨b, 3, none⟩ = some (.int .i64 (n4 : Int)) := acC Y6 b 3 _ 30 (0, 0) rF;have vC := af (acD Il ((Ap.out.2.grown hg jd.out).grown pE Cb.out));have X7 := af (show X.grownBy Y6 (some g) by rw [← hY]; exact ah (aJ aa2.out hg) NL.out);have X8 := af (dh (dh Ma.out hg zF.out) pE b_.out);have QH := af rF;clear hs hg lM rF pE Il;have LZ : ¬ nW l (a, e) → R = [] ∧ E = 30 := fun hf => by
    have := H.out.2.2.2.2.2.2.1;rw [od.out, LX hf] at this;simp only [acT] at this;exact ⟨this.1.symm, this.2.symm⟩
   have lq := af LZ;have TQ := af (show Below w.heap.size w Y6 from HB.out.grown X7.out HB.out.size (fun k hk => by injection hk with hk; have := HG.out; omega));clear LZ;by_cases hE6 : E6 ≠ 0
   ·obtain ⟨rfl, rfl⟩ := lq.out (fun hf => hE6 (by have := hf.1; rw [HF.out.1] at this; exact this));have g1 : ((E6 : Int) != 0) = true := by simp; omega
    clear hE6;go_wp2;go_ret2
    exact ⟨_, rfl, aI.nil _ _, TQ.out⟩
   ·obtain rfl : E6 = 0 := by omega
    clear hE6;by_cases w_ : (1099511627776 : Int) < (n5 : Int)
    ·obtain ⟨rfl, rfl⟩ := lq.out (fun hf => by have := hf.2.1; rw [HF.out.2.1.1] at this; omega);go_wp2;go_ret2
     exact ⟨_, rfl, aI.nil _ _, TQ.out⟩
    ·by_cases Zt : (1099511627776 : Int) < (n4 : Int)
     ·obtain ⟨rfl, rfl⟩ := lq.out (fun hf => by have := hf.2.2; rw [HF.out.2.1.2] at this; omega);go_wp2;go_ret2
      exact ⟨_, rfl, aI.nil _ _, TQ.out⟩
     ·have Mc : nW l (a, e) := ⟨by rw [HF.out.1], by rw [HF.out.2.1.1]; omega, by rw [HF.out.2.1.2]; omega⟩
      have hT := H.out.2.2.2.2.2.2.1;rw [od.out, Pe Mc, HF.out.1] at hT;have j_ : tM n4 n5 = (n4 : Int) + (n5 : Int) := lg (by omega);dsimp only at hT;rw [j_, ← str_eq] at hT;have HT := af hT;have HFI := af (HF.out.2.2.1 Mc);have h45 : (n4 : Int) + (n5 : Int) ≤ 9223372036854775807 := by omega
      have fr := acI Y6 b 4 _ 30 QH.out;have zc : Y6.cell? ⟨b, 4, none⟩ = some (.int .i64 0) := acC Y6 b 4 _ 30 (0, 0) QH.out;obtain ⟨Y7, hY⟩ : ∃ Y, Y6.setCell ⟨b, 4, none⟩ (.int .i64 ((n4 : Int) + (n5 : Int))) = Y := ⟨_, rfl⟩
      have rF : Y7.heap[b]? = some (.cells #[.int .i64 (n1 : Int), .int .i64 (n2 : Int), .int .i64 (n3 : Int), .int .i64 (n4 : Int), .int .i64 ((n4 : Int) + (n5 : Int)), .string (str T6)] 30 (0, 0)) := by rw [← hY, acK Y6 b 4 _ 30 (.int .i64 ((n4 : Int) + (n5 : Int))) QH.out]; rfl
      have pE : Y6.grownBy Y7 (some b) := by rw [← hY]; exact aj _ _ _ _
      have d0 : Y7.cell? ⟨b, 0, none⟩ = some (.int .i64 (n1 : Int)) := acC Y7 b 0 _ 30 (0, 0) rF;have d1 : Y7.cell? ⟨b, 1, none⟩ = some (.int .i64 (n2 : Int)) := acC Y7 b 1 _ 30 (0, 0) rF;have d2 : Y7.cell? ⟨b, 2, none⟩ = some (.int .i64 (n3 : Int)) := acC Y7 b 2 _ 30 (0, 0) rF;have d3 : Y7.cell? ⟨b, 3, none⟩ = some (.int .i64 (n4 : Int)) := acC Y7 b 3 _ 30 (0, 0) rF;have d4 : Y7.cell? ⟨b, 4, none⟩ = some (.int .i64 ((n4 : Int) + (n5 : Int))) := acC Y7 b 4 _ 30 (0, 0) rF;have d5 : Y7.cell? ⟨b, 5, none⟩ = some (.string (str T6)) := acC Y7 b 5 _ 30 (0, 0) rF;have ZL := af (acD (vC.out.1.qF pE jM.out) (vC.out.2.grown pE Cb.out));have ET := af (show X.grownBy Y7 (some g) by rw [← hY]; exact ah X7.out NL.out);have Rl := af (dh X8.out pE b_.out);have aa3 := af ET.out.size;have I6 : r.length ≤ 1100000 := by have := H.out.2.2.2.2.1; have := H.out.2.2.2.2.2.1; omega
      have Ex := af I6;clear rF pE Mc hT j_ I6;go_wp2_with (at_builtin; go_must (refine dI (v := u6) rfl _ _ rfl rfl ⟨n1, n2, n3, n4, (n4 : Int) + (n5 : Int), str T6⟩ rfl rfl Rl.out aa3.out Ex.out ?_); intro v8 w8 Nv kn zG)
      go_roundw;case rel =>
       have hold : ∀ k, u6.ownBlock = some k → X.heap.size ≤ k := fun k hk => (Rl.out.lt k hk).1;refine ⟨j + 1, r ++ [⟨n1, n2, n3, n4, (n4 : Int) + (n5 : Int), str T6⟩], a6, 0, by omega, by go_num, af ⟨?_, ?_, Nv, ?_, HF.out.2.2.2.1, ?_, HT.out, ?_⟩⟩
       ·have h1 := ZL.out.1;unfold Sr at h1 ⊢;rw [zG.block g (lt_of_heap h1) (fun e => by have := hold g e.symm; have := Dk.out; omega)];exact h1
       ·refine ZL.out.2.grown zG ?_;by_cases hz : l = []
        ·exact .inl hz
        ·refine .inr fun k hk e => ?_;have h1 := hold k e;have h2 := X3.out k hk hz;have h3 := HG.out;have h4 := Dk.out;omega
       ·exact ⟨zG.os.trans ET.out.os, zG.tape.trans ET.out.tape, zG.output.trans ET.out.output, acN ET.out.size zG.size, fun k hk hr => (zG.block k (acV hk ET.out.size) (fun e => by have := hold k e.symm; omega)).trans (ET.out.block k hk hr)⟩
       ·have h1 := HFI.out.2;have h2 := H.out.2.2.2.2.2.1;rw [acH];simp only [acZ, ad8];omega
       ·intro x hx;rcases ad1.1 hx with hx | hx
        ·exact H.out.2.2.2.2.2.2.2 x hx
        ·simp only [aeo] at hx;subst hx;have := t6 l (a, e);rw [HF.out.1, ← str_eq] at this;exact this
      case measure => simp [intOf]; omega
  ·have Ri : j = N := by omega
   subst Ri;have Cc := H.out.2.2.2.2.2.2.1;rw [afa, LY] at Cc;have HE := af Cc;obtain ⟨p6, n6, c6, rfl⟩ := H.out.2.2.1.gp.sl;have BZ := H.out.2.2.1.gp.len.1;have I6 := H.out.2.2.2.2.2.1;have lV := H.out.2.2.2.2.1;have Md := (fun x hx => H.out.2.2.2.2.2.2.2 x hx)
   obtain ⟨B, F, hP⟩ : ∃ B F, nH r = (B, F) := ⟨_, _, rfl⟩
   have HP := af hP;have Pk := af (tQ H.out.2.2.1.gp (by omega) Md hP);have TS := af (show Below w.heap.size w wr from HB.out.grown H.out.2.2.2.1 HB.out.size (fun k hk => by injection hk with hk; have := HG.out; omega));have aM := H.out.2.2.1;have ib := af aM;clear Cc BZ I6 lV Md hP aM;go_wp2_with fail
   refine Pk.out.mono ?_;rintro f5 w5 ⟨v5, rfl, bP, aL⟩;obtain ⟨q5, m5, c5, rfl⟩ := bP.bp.sl;have ql := af bP.bp;have cH := af aL;have aa4 := af (H.out.2.1.below aL);have Ma := af (show aI w.heap.size w5 (.slice p6 n6 c6) r from (ib.out.below aL).mono HB.out.size);clear bP aL;by_cases hF : F ≠ 0
   ·have Dt : R = [] ∧ E = 30 := by
     have := HE.out;rw [acO (by rw [HP.out]; intro e; simp only [acT] at e; exact hF e.2)] at this;simp only [acT] at this;exact ⟨this.1.symm, this.2.symm⟩
    obtain ⟨rfl, rfl⟩ := Dt;have g1 : ((F : Int) != 0) = true := by simp; omega
    clear hF;go_wp2;go_ret2
    exact ⟨_, rfl, aI.nil _ _, bt TS.out cH.out⟩
   ·obtain rfl : F = 0 := by omega
    clear hF;have zw := bH ql.out;have rX := bH aa4.out;have Nz : ((str B).toList == (str l).toList) = decide (B = l) := mZ B l;by_cases VK : B = l
    ·have Dt : R = r ∧ E = 0 := by
      have := HE.out;rw [acW (by rw [HP.out, VK])] at this;simp only [acT] at this;exact ⟨this.1.symm, this.2.symm⟩
     obtain ⟨rfl, rfl⟩ := Dt;rw [ac4 VK] at Nz;clear VK;go_wp2;go_ret2
     exact ⟨_, rfl, Ma.out, bt TS.out cH.out⟩
    ·have Dt : R = [] ∧ E = 30 := by
      have := HE.out;rw [acO (by rw [HP.out]; intro e; simp only [acT] at e; exact VK e.1)] at this;simp only [acT] at this;exact ⟨this.1.symm, this.2.symm⟩
     obtain ⟨rfl, rfl⟩ := Dt;rw [ac1 VK] at Nz;clear VK;go_wp2;go_ret2
     exact ⟨_, rfl, aI.nil _ _, bt TS.out cH.out⟩
end Go.Proofs.YtionbmlicmibgaaGreatDoor
