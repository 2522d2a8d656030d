import Derived.Test.YtionbmlicmibgaaGreatDoorMcGet
set_option linter.unusedVariables false
set_option linter.unusedSimpArgs false
namespace Go.Proofs.YtionbmlicmibgaaGreatDoor
open Go.Proofs.Tryz
set_option maxRecDepth 200000
set_option maxHeartbeats 8000000
open Go.RowKit
def bk (w : World) (b : Nat) (k se sq a : Int) (vs vv : Value) : Prop := w.heap[b]? = some (.cells #[.int .i64 k, .int .i64 se, .int .i64 sq, .int .i64 a, vs, vv] 25 (0, 0))
section
variable {w w' : World} {b : Nat} {k se sq a : Int} {vs vv : Value}
theorem bk.new (w : World) : bk (w.alloc (.cells #[.int .i64 k, .int .i64 se, .int .i64 sq, .int .i64 a, vs, vv] 25)) w.heap.size k se sq a vs vv := acQ _ _
theorem bk.box (h : bk w b k se sq a vs vv) : iI w b k se sq a vs vv := ⟨acC w b 0 _ 25 (0, 0) h, acC w b 1 _ 25 (0, 0) h, acC w b 2 _ 25 (0, 0) h, acC w b 3 _ 25 (0, 0) h, acC w b 4 _ 25 (0, 0) h, acC w b 5 _ 25 (0, 0) h⟩
theorem bk.fr (h : bk w b k se sq a vs vv) (i : Nat) : w.frozen? ⟨b, i, none⟩ = false := acI w b i _ 25 h
theorem bk.lt (h : bk w b k se sq a vs vv) : b < w.heap.size := lt_of_cell h.box.1
theorem bk.below (h : bk w b k se sq a vs vv) (hb : Below w.heap.size w w') : bk w' b k se sq a vs vv := (hb.block b h.lt).trans h
theorem bk.grown {row : Option Nat} (h : bk w b k se sq a vs vv) (hg : w.grownBy w' row) (aN : row ≠ some b) : bk w' b k se sq a vs vv := (hg.block b h.lt (fun e => aN e.symm)).trans h
theorem bk.aU {S : Nat → Prop} (h : bk w b k se sq a vs vv) (hc : ak w w' S) (aN : ¬ S b) : bk w' b k se sq a vs vv := (hc.block b h.lt aN).trans h
theorem bk.set0 (h : bk w b k se sq a vs vv) (x : Int) : bk (w.setCell ⟨b, 0, none⟩ (.int .i64 x)) b x se sq a vs vv := by unfold bk at *; rw [acK w b 0 _ 25 _ h]; rfl
theorem bk.set1 (h : bk w b k se sq a vs vv) (x : Int) : bk (w.setCell ⟨b, 1, none⟩ (.int .i64 x)) b k x sq a vs vv := by unfold bk at *; rw [acK w b 1 _ 25 _ h]; rfl
theorem bk.set2 (h : bk w b k se sq a vs vv) (x : Int) : bk (w.setCell ⟨b, 2, none⟩ (.int .i64 x)) b k se x a vs vv := by unfold bk at *; rw [acK w b 2 _ 25 _ h]; rfl
theorem bk.Lg (h : bk w b k se sq a vs vv) (x : Int) : bk (w.setCell ⟨b, 3, none⟩ (.int .i64 x)) b k se sq x vs vv := by unfold bk at *; rw [acK w b 3 _ 25 _ h]; rfl
theorem bk.OB (h : bk w b k se sq a vs vv) (x : Value) : bk (w.setCell ⟨b, 4, none⟩ x) b k se sq a x vv := by unfold bk at *; rw [acK w b 4 _ 25 _ h]; rfl
theorem bk.OC (h : bk w b k se sq a vs vv) (x : Value) : bk (w.setCell ⟨b, 5, none⟩ x) b k se sq a vs x := by unfold bk at *; rw [acK w b 5 _ 25 _ h]; rfl
theorem aC (w : World) (b i : Nat) (x : Value) : ak w (w.setCell ⟨b, i, none⟩ x) fun k => k = b := ak.aV (aj w b i x) _ (fun k e => by injection e with e; exact .inl e.symm)
end
theorem bV {a c : World} {S : Nat → Prop} {B : Nat} (h : ak a c S) (hS : ∀ k, S k → B ≤ k) (hB : B ≤ a.heap.size) : Below B a c := ⟨h.os, h.tape, h.output, h.size, fun k hk => h.block k (acV hk hB) (fun e => by have := hS k e; omega)⟩
def wa (w : World) (b : Nat) (k se sq a : Int) (vs vv : Value) : World := (((((w.setCell ⟨b, 0, none⟩ (.int .i64 k)).setCell ⟨b, 1, none⟩ (.int .i64 se)).setCell ⟨b, 2, none⟩ (.int .i64 sq)).setCell ⟨b, 3, none⟩ (.int .i64 a)).setCell ⟨b, 4, none⟩ vs).setCell ⟨b, 5, none⟩ vv
theorem gW {w : World} {b : Nat} {k se sq a : Int} {vs vv : Value} (h : bk w b k se sq a vs vv) (k' DL DN a' : Int) (Vg Ov : Value) : bk (wa w b k' DL DN a' Vg Ov) b k' DL DN a' Vg Ov := (((((h.set0 k').set1 DL).set2 DN).Lg a').OB Vg).OC Ov
theorem eG {w a c : World} {b : Nat} (h : ak w a fun k => k = b) (h' : ak a c fun k => k = b) : ak w c fun k => k = b := h.trans h' (fun k e => .inl e)
theorem gX (w : World) (b : Nat) (k' DL DN a' : Int) (Vg Ov : Value) : ak w (wa w b k' DL DN a' Vg Ov) fun k => k = b :=
 eG (eG (eG (eG (eG (aC _ _ _ _) (aC _ _ _ _)) (aC _ _ _ _)) (aC _ _ _ _)) (aC _ _ _ _)) (aC _ _ _ _)
theorem aI.yT {B b : Nat} {w w' : World} {v : Value} {l : List Sp} (h : aI B w v l) (hc : ak w w' fun k => k = b) (aN : ∀ k, v.ownBlock = some k → k ≠ b) : aI B w' v l := by
 refine adV (row := some b) h ⟨hc.os, hc.tape, hc.output, hc.size, fun k hk hr => hc.block k hk fun e => hr (by rw [e])⟩ ?_;cases FE : v.ownBlock with
 | none => exact .inl rfl
 | some k => exact .inr fun e => aN k FE (by injection e)
theorem bJ.yT {B b : Nat} {w w' : World} {v : Value} {l : List Int} (h : bJ B w v l) (hc : ak w w' fun k => k = b) (aN : ∀ k, v.ownBlock = some k → k ≠ b) : bJ B w' v l := by
 refine ⟨adV (row := some b) h.1 ⟨hc.os, hc.tape, hc.output, hc.size, fun k hk hr => hc.block k hk fun e => hr (by rw [e])⟩ ?_, h.2⟩;cases FE : v.ownBlock with
 | none => exact .inl rfl
 | some k => exact .inr fun e => aN k FE (by injection e)
def xB (w0 w : World) (c : Cm) (e : Ending) (w' : World) : Prop := ∃ p n d q m f, e = .returned (pW c (.slice p n d) (.slice q m f)) ∧ aI w.heap.size w' (.slice p n d) c.sp ∧ bJ w.heap.size w' (.slice q m f) c.vo ∧ Below w0.heap.size w0 w'
theorem Io {w0 w : World} {g : Nat} {p : Option Addr} {n c : Nat} {l : List UInt8} (h : rS w0 g (.slice p n c) l w (0, 0)) (hl : l.length ≤ 1100000) {k : Nat} (hk : (nx l (0, 0)).1 = k) (h2 : k ≠ 2) (h3 : k ≠ 3) (h4 : k ≠ 4) (h5 : k ≠ 5) : Calls prog 68 #[.pointer (some ⟨g, 0, none⟩)] w (xB w0 w ⟨k, 0, 0, 0, [], []⟩) := by
 have hA := (acG w.heap.size w).alloc (acE _) (.cells #[.int .i64 0, .int .i64 0, .int .i64 0, .int .i64 0, .slice none 0 0, .slice none 0 0] 25);have HL := af (acD h.sc.lt (acD h.bp.Qv (acD h.b.size hl)));have HR := af (bk.new (k := 0) (se := 0) (sq := 0) (a := 0) (vs := .slice none 0 0) (vv := .slice none 0 0) w);have N1 := af (ek (h.below hA));have Al := af hA;have e2 : ((k : Int) == 2) = false := by simp; omega
 have e3 : ((k : Int) == 3) = false := by simp; omega
 have e4 : ((k : Int) == 4) = false := by simp; omega
 have e5 : ((k : Int) == 5) = false := by simp; omega
 rw [hk] at N1;clear h hl hA hk h2 h3 h4 h5;go_enter func68, ntmps68
 go_wp2_with fail
 refine N1.out.mono ?_;rintro e w1 ⟨rfl, dR, eQ⟩;have eO := HR.out.grown eQ (by have := HL.out.1; intro e; injection e with e; omega);go_upto_region 2 with fail
 have hB := (acG w1.heap.size w1).alloc (acE _) (.cells #[.int .i64 (k : Nat), .int .i64 0, .int .i64 0, .int .i64 0, .slice none 0 0, .slice none 0 0] 25);obtain ⟨X, hX⟩ : ∃ X, w1.alloc (.cells #[.int .i64 (k : Nat), .int .i64 0, .int .i64 0, .int .i64 0, .slice none 0 0, .slice none 0 0] 25) = X := ⟨_, rfl⟩
 have hb := bk.new (k := (k : Nat)) (se := 0) (sq := 0) (a := 0) (vs := .slice none 0 0) (vv := .slice none 0 0) w1;rw [hX] at hB hb;have om : w.heap.size < w1.heap.size := eO.lt;obtain ⟨b, eS⟩ : ∃ b, w1.heap.size = b := ⟨_, rfl⟩
 obtain ⟨r, cT⟩ : ∃ r, w.heap.size = r := ⟨_, rfl⟩
 rw [eS] at hb om;rw [cT] at eO om;have b_ : Hid (g < r ∧ r < b ∧ w.heap.size = r) := af ⟨by have := HL.out.1; omega, om, cT⟩;have HX := af (acD (dR.below hB) (acD (eO.below hB) hb));have Dk : Hid (w.heap.size ≤ X.heap.size) := af (by have h1 := Al.out.size; have h2 := eQ.size; have h3 := hB.size; omega);obtain ⟨x0, x1, x2, x3, x4, x5⟩ := hb.box;have Kj := af hb;clear dR eQ eO hB hb om N1;rw [hX, eS, cT];clear hX eS cT;have nR : Hid (w.heap.size ≤ (X).heap.size) := af Dk.out;have ec := af (HX.out.2.1);obtain ⟨k0, k1, k2, k3, k4, k5⟩ := (HX.out.2.2).box;obtain ⟨j0, j1, j2, j3, j4, j5⟩ := ec.out.box;have JZ := ec.out.fr 0;have J0 := ec.out.fr 1;have Qw := ec.out.fr 2;have Qx := ec.out.fr 3;have Qy := ec.out.fr 4;have Qz := ec.out.fr 5;go_wp2_with fail
 have hst := gW ec.out (k : Nat) 0 0 0 (.slice none 0 0) (.slice none 0 0);have hcs := gX X r (k : Nat) 0 0 0 (.slice none 0 0) (.slice none 0 0);unfold wa at hst hcs;have eH := af hst;have xm := bV (B := w.heap.size) hcs (fun k e => by have := b_.out.2.2; omega) nR.out;refine ac0 (v := .agg #[.int .i64 (k : Nat), .int .i64 0, .int .i64 0, .int .i64 0, .slice none 0 0, .slice none 0 0]) (by
   generalize (((((World.setCell X ⟨r, 0, none⟩ (.int .i64 (k : Nat))).setCell ⟨r, 1, none⟩ (.int .i64 0)).setCell ⟨r, 2, none⟩ (.int .i64 0)).setCell ⟨r, 3, none⟩ (.int .i64 0)).setCell ⟨r, 4, none⟩ (.slice none 0 0)).setCell ⟨r, 5, none⟩ (.slice none 0 0) = W9 at hst ⊢;obtain ⟨m0, m1, m2, m3, m4, m5⟩ := hst.box;simp [results, results68, go_sem, m0, m1, m2, m3, m4, m5]) rfl ?_
 exact ⟨_, _, _, _, _, _, rfl, aI.nil _ _, bJ.nil _ _, ((HX.out.1).later xm HL.out.1 HL.out.2.1 HL.out.2.2.1).b⟩
theorem Ip {w0 w : World} {g : Nat} {p : Option Addr} {n c : Nat} {l : List UInt8} (h : rS w0 g (.slice p n c) l w (0, 0)) (hl : l.length ≤ 1100000) (hk : (nx l (0, 0)).1 = 3) : Calls prog 68 #[.pointer (some ⟨g, 0, none⟩)] w (xB w0 w ⟨3, 0, 0, ((nx l (nx l (0, 0)).2).1 : Nat), [], []⟩) := by
 have hA := (acG w.heap.size w).alloc (acE _) (.cells #[.int .i64 0, .int .i64 0, .int .i64 0, .int .i64 0, .slice none 0 0, .slice none 0 0] 25);have HL := af (acD h.sc.lt (acD h.bp.Qv (acD h.b.size hl)));have HR := af (bk.new (k := 0) (se := 0) (sq := 0) (a := 0) (vs := .slice none 0 0) (vv := .slice none 0 0) w);have N1 := af (ek (h.below hA));have Al := af hA;rw [hk] at N1;obtain ⟨s1, dR⟩ : ∃ s, (nx l (0, 0)).2 = s := ⟨_, rfl⟩
 rw [dR] at N1;rw [dR];obtain ⟨x, hx⟩ : ∃ x, (nx l s1).1 = x := ⟨_, rfl⟩
 obtain ⟨s2, eF⟩ : ∃ s, (nx l s1).2 = s := ⟨_, rfl⟩
 rw [hx];have il := af (acD hx eF);clear h hl hA hk dR hx eF;go_enter func68, ntmps68
 go_wp2_with fail
 refine N1.out.mono ?_;rintro e w1 ⟨rfl, dR, eQ⟩;have eO := HR.out.grown eQ (by have := HL.out.1; intro e; injection e with e; omega);go_upto_region 2 with fail
 have hB := (acG w1.heap.size w1).alloc (acE _) (.cells #[.int .i64 3, .int .i64 0, .int .i64 0, .int .i64 0, .slice none 0 0, .slice none 0 0] 25);obtain ⟨X, hX⟩ : ∃ X, w1.alloc (.cells #[.int .i64 3, .int .i64 0, .int .i64 0, .int .i64 0, .slice none 0 0, .slice none 0 0] 25) = X := ⟨_, rfl⟩
 have hb := bk.new (k := 3) (se := 0) (sq := 0) (a := 0) (vs := .slice none 0 0) (vv := .slice none 0 0) w1;rw [hX] at hB hb;have om : w.heap.size < w1.heap.size := eO.lt;obtain ⟨b, eS⟩ : ∃ b, w1.heap.size = b := ⟨_, rfl⟩
 obtain ⟨r, cT⟩ : ∃ r, w.heap.size = r := ⟨_, rfl⟩
 rw [eS] at hb om;rw [cT] at eO om;have b_ : Hid (g < r ∧ r < b ∧ w.heap.size = r) := af ⟨by have := HL.out.1; omega, om, cT⟩;have HX := af (acD (dR.below hB) (acD (eO.below hB) hb));have Dk : Hid (w.heap.size ≤ X.heap.size) := af (by have h1 := Al.out.size; have h2 := eQ.size; have h3 := hB.size; omega);obtain ⟨x0, x1, x2, x3, x4, x5⟩ := hb.box;have Kj := af hb;clear dR eQ eO hB hb om N1;rw [hX, eS, cT];clear hX eS cT;have N2 := af (ek HX.out.1);rw [il.out.1, il.out.2] at N2;go_wp2_with fail
 refine N2.out.mono ?_;rintro e w2 ⟨rfl, eF, dO⟩;have zh := HX.out.2.1.grown dO (by have := b_.out; intro e; injection e with e; omega);have aP := HX.out.2.2.grown dO (by have := b_.out; intro e; injection e with e; omega);have rV : Hid (w.heap.size ≤ w2.heap.size) := af (acN Dk.out dO.size);have f3 := aP.fr 3;obtain ⟨OD, x1', QM, SS, QO, QP⟩ := aP.box;obtain ⟨Y, hY⟩ : ∃ Y, w2.setCell ⟨b, 3, none⟩ (.int .i64 (x : Nat)) = Y := ⟨_, rfl⟩
 have df : ak w2 Y fun k => k = b := by rw [← hY]; exact aC _ _ _ _
 have fF : bk Y b 3 0 0 (x : Nat) (.slice none 0 0) (.slice none 0 0) := by rw [← hY]; exact aP.Lg _
 have lN := zh.aU df (by have := b_.out; omega);have Li := eF.later (bV (B := w.heap.size) df (fun k e => by have := b_.out; omega) rV.out) HL.out.1 HL.out.2.1 HL.out.2.2.1;have HY := af (acD Li (acD lN fF));have SX : Hid (w.heap.size ≤ Y.heap.size) := af (acN rV.out df.size);clear eF dO zh aP df fF lN Li N2 x0 x1 x2 x3 x4 x5 OD x1' QM QO QP;go_upto_region 11 with fail
 clear hY;have nR : Hid (w.heap.size ≤ (Y).heap.size) := af SX.out;have ec := af (HY.out.2.1);obtain ⟨k0, k1, k2, k3, k4, k5⟩ := (HY.out.2.2).box;obtain ⟨j0, j1, j2, j3, j4, j5⟩ := ec.out.box;have JZ := ec.out.fr 0;have J0 := ec.out.fr 1;have Qw := ec.out.fr 2;have Qx := ec.out.fr 3;have Qy := ec.out.fr 4;have Qz := ec.out.fr 5;go_wp2_with fail
 have hst := gW ec.out 3 0 0 (x : Nat) (.slice none 0 0) (.slice none 0 0);have hcs := gX Y r 3 0 0 (x : Nat) (.slice none 0 0) (.slice none 0 0);unfold wa at hst hcs;have eH := af hst;have xm := bV (B := w.heap.size) hcs (fun k e => by have := b_.out.2.2; omega) nR.out;refine ac0 (v := .agg #[.int .i64 3, .int .i64 0, .int .i64 0, .int .i64 (x : Nat), .slice none 0 0, .slice none 0 0]) (by
   generalize (((((World.setCell Y ⟨r, 0, none⟩ (.int .i64 3)).setCell ⟨r, 1, none⟩ (.int .i64 0)).setCell ⟨r, 2, none⟩ (.int .i64 0)).setCell ⟨r, 3, none⟩ (.int .i64 (x : Nat))).setCell ⟨r, 4, none⟩ (.slice none 0 0)).setCell ⟨r, 5, none⟩ (.slice none 0 0) = W9 at hst ⊢;obtain ⟨m0, m1, m2, m3, m4, m5⟩ := hst.box;simp [results, results68, go_sem, m0, m1, m2, m3, m4, m5]) rfl ?_
 exact ⟨_, _, _, _, _, _, rfl, aI.nil _ _, bJ.nil _ _, ((HY.out.1).later xm HL.out.1 HL.out.2.1 HL.out.2.2.1).b⟩
theorem Iq {w0 w : World} {g : Nat} {p : Option Addr} {n c : Nat} {l : List UInt8} (h : rS w0 g (.slice p n c) l w (0, 0)) (hl : l.length ≤ 1100000) (hk : (nx l (0, 0)).1 = 4) : Calls prog 68 #[.pointer (some ⟨g, 0, none⟩)] w (xB w0 w ⟨4, 0, 0, ((nx l (nx l (0, 0)).2).1 : Nat), [], []⟩) := by
 have hA := (acG w.heap.size w).alloc (acE _) (.cells #[.int .i64 0, .int .i64 0, .int .i64 0, .int .i64 0, .slice none 0 0, .slice none 0 0] 25);have HL := af (acD h.sc.lt (acD h.bp.Qv (acD h.b.size hl)));have HR := af (bk.new (k := 0) (se := 0) (sq := 0) (a := 0) (vs := .slice none 0 0) (vv := .slice none 0 0) w);have N1 := af (ek (h.below hA));have Al := af hA;rw [hk] at N1;obtain ⟨s1, dR⟩ : ∃ s, (nx l (0, 0)).2 = s := ⟨_, rfl⟩
 rw [dR] at N1;rw [dR];obtain ⟨x, hx⟩ : ∃ x, (nx l s1).1 = x := ⟨_, rfl⟩
 obtain ⟨s2, eF⟩ : ∃ s, (nx l s1).2 = s := ⟨_, rfl⟩
 rw [hx];have il := af (acD hx eF);clear h hl hA hk dR hx eF;go_enter func68, ntmps68
 go_wp2_with fail
 refine N1.out.mono ?_;rintro e w1 ⟨rfl, dR, eQ⟩;have eO := HR.out.grown eQ (by have := HL.out.1; intro e; injection e with e; omega);go_upto_region 2 with fail
 have hB := (acG w1.heap.size w1).alloc (acE _) (.cells #[.int .i64 4, .int .i64 0, .int .i64 0, .int .i64 0, .slice none 0 0, .slice none 0 0] 25);obtain ⟨X, hX⟩ : ∃ X, w1.alloc (.cells #[.int .i64 4, .int .i64 0, .int .i64 0, .int .i64 0, .slice none 0 0, .slice none 0 0] 25) = X := ⟨_, rfl⟩
 have hb := bk.new (k := 4) (se := 0) (sq := 0) (a := 0) (vs := .slice none 0 0) (vv := .slice none 0 0) w1;rw [hX] at hB hb;have om : w.heap.size < w1.heap.size := eO.lt;obtain ⟨b, eS⟩ : ∃ b, w1.heap.size = b := ⟨_, rfl⟩
 obtain ⟨r, cT⟩ : ∃ r, w.heap.size = r := ⟨_, rfl⟩
 rw [eS] at hb om;rw [cT] at eO om;have b_ : Hid (g < r ∧ r < b ∧ w.heap.size = r) := af ⟨by have := HL.out.1; omega, om, cT⟩;have HX := af (acD (dR.below hB) (acD (eO.below hB) hb));have Dk : Hid (w.heap.size ≤ X.heap.size) := af (by have h1 := Al.out.size; have h2 := eQ.size; have h3 := hB.size; omega);obtain ⟨x0, x1, x2, x3, x4, x5⟩ := hb.box;have Kj := af hb;clear dR eQ eO hB hb om N1;rw [hX, eS, cT];clear hX eS cT;have N2 := af (ek HX.out.1);rw [il.out.1, il.out.2] at N2;go_wp2_with fail
 refine N2.out.mono ?_;rintro e w2 ⟨rfl, eF, dO⟩;have zh := HX.out.2.1.grown dO (by have := b_.out; intro e; injection e with e; omega);have aP := HX.out.2.2.grown dO (by have := b_.out; intro e; injection e with e; omega);have rV : Hid (w.heap.size ≤ w2.heap.size) := af (acN Dk.out dO.size);have f3 := aP.fr 3;obtain ⟨OD, x1', QM, SS, QO, QP⟩ := aP.box;obtain ⟨Y, hY⟩ : ∃ Y, w2.setCell ⟨b, 3, none⟩ (.int .i64 (x : Nat)) = Y := ⟨_, rfl⟩
 have df : ak w2 Y fun k => k = b := by rw [← hY]; exact aC _ _ _ _
 have fF : bk Y b 4 0 0 (x : Nat) (.slice none 0 0) (.slice none 0 0) := by rw [← hY]; exact aP.Lg _
 have lN := zh.aU df (by have := b_.out; omega);have Li := eF.later (bV (B := w.heap.size) df (fun k e => by have := b_.out; omega) rV.out) HL.out.1 HL.out.2.1 HL.out.2.2.1;have HY := af (acD Li (acD lN fF));have SX : Hid (w.heap.size ≤ Y.heap.size) := af (acN rV.out df.size);clear eF dO zh aP df fF lN Li N2 x0 x1 x2 x3 x4 x5 OD x1' QM QO QP;go_upto_region 11 with fail
 clear hY;have nR : Hid (w.heap.size ≤ (Y).heap.size) := af SX.out;have ec := af (HY.out.2.1);obtain ⟨k0, k1, k2, k3, k4, k5⟩ := (HY.out.2.2).box;obtain ⟨j0, j1, j2, j3, j4, j5⟩ := ec.out.box;have JZ := ec.out.fr 0;have J0 := ec.out.fr 1;have Qw := ec.out.fr 2;have Qx := ec.out.fr 3;have Qy := ec.out.fr 4;have Qz := ec.out.fr 5;go_wp2_with fail
 have hst := gW ec.out 4 0 0 (x : Nat) (.slice none 0 0) (.slice none 0 0);have hcs := gX Y r 4 0 0 (x : Nat) (.slice none 0 0) (.slice none 0 0);unfold wa at hst hcs;have eH := af hst;have xm := bV (B := w.heap.size) hcs (fun k e => by have := b_.out.2.2; omega) nR.out;refine ac0 (v := .agg #[.int .i64 4, .int .i64 0, .int .i64 0, .int .i64 (x : Nat), .slice none 0 0, .slice none 0 0]) (by
   generalize (((((World.setCell Y ⟨r, 0, none⟩ (.int .i64 4)).setCell ⟨r, 1, none⟩ (.int .i64 0)).setCell ⟨r, 2, none⟩ (.int .i64 0)).setCell ⟨r, 3, none⟩ (.int .i64 (x : Nat))).setCell ⟨r, 4, none⟩ (.slice none 0 0)).setCell ⟨r, 5, none⟩ (.slice none 0 0) = W9 at hst ⊢;obtain ⟨m0, m1, m2, m3, m4, m5⟩ := hst.box;simp [results, results68, go_sem, m0, m1, m2, m3, m4, m5]) rfl ?_
 exact ⟨_, _, _, _, _, _, rfl, aI.nil _ _, bJ.nil _ _, ((HY.out.1).later xm HL.out.1 HL.out.2.1 HL.out.2.2.1).b⟩
theorem Ir {w0 w : World} {g : Nat} {p : Option Addr} {n c : Nat} {l : List UInt8} (h : rS w0 g (.slice p n c) l w (0, 0)) (hl : l.length ≤ 1100000) (hk : (nx l (0, 0)).1 = 5) : Calls prog 68 #[.pointer (some ⟨g, 0, none⟩)] w (xB w0 w ⟨5, 0, 0, 0, [], (G_ l (nx l (0, 0)).2).1⟩) := by
 have hA := (acG w.heap.size w).alloc (acE _) (.cells #[.int .i64 0, .int .i64 0, .int .i64 0, .int .i64 0, .slice none 0 0, .slice none 0 0] 25);have HL := af (acD h.sc.lt (acD h.bp.Qv (acD h.b.size hl)));have HR := af (bk.new (k := 0) (se := 0) (sq := 0) (a := 0) (vs := .slice none 0 0) (vv := .slice none 0 0) w);have N1 := af (ek (h.below hA));have Al := af hA;rw [hk] at N1;obtain ⟨s1, dR⟩ : ∃ s, (nx l (0, 0)).2 = s := ⟨_, rfl⟩
 rw [dR] at N1;rw [dR];obtain ⟨vo, sB⟩ : ∃ x, (G_ l s1).1 = x := ⟨_, rfl⟩
 rw [sB];have La := af sB;clear h hl hA hk dR sB;go_enter func68, ntmps68
 go_wp2_with fail
 refine N1.out.mono ?_;rintro e w1 ⟨rfl, dR, eQ⟩;have eO := HR.out.grown eQ (by have := HL.out.1; intro e; injection e with e; omega);go_upto_region 2 with fail
 have hB := (acG w1.heap.size w1).alloc (acE _) (.cells #[.int .i64 5, .int .i64 0, .int .i64 0, .int .i64 0, .slice none 0 0, .slice none 0 0] 25);obtain ⟨X, hX⟩ : ∃ X, w1.alloc (.cells #[.int .i64 5, .int .i64 0, .int .i64 0, .int .i64 0, .slice none 0 0, .slice none 0 0] 25) = X := ⟨_, rfl⟩
 have hb := bk.new (k := 5) (se := 0) (sq := 0) (a := 0) (vs := .slice none 0 0) (vv := .slice none 0 0) w1;rw [hX] at hB hb;have om : w.heap.size < w1.heap.size := eO.lt;obtain ⟨b, eS⟩ : ∃ b, w1.heap.size = b := ⟨_, rfl⟩
 obtain ⟨r, cT⟩ : ∃ r, w.heap.size = r := ⟨_, rfl⟩
 rw [eS] at hb om;rw [cT] at eO om;have b_ : Hid (g < r ∧ r < b ∧ w.heap.size = r) := af ⟨by have := HL.out.1; omega, om, cT⟩;have HX := af (acD (dR.below hB) (acD (eO.below hB) hb));have Dk : Hid (w.heap.size ≤ X.heap.size) := af (by have h1 := Al.out.size; have h2 := eQ.size; have h3 := hB.size; omega);obtain ⟨x0, x1, x2, x3, x4, x5⟩ := hb.box;have Kj := af hb;clear dR eQ eO hB hb om N1;rw [hX, eS, cT];clear hX eS cT;have N2 := af (rj HX.out.1);rw [La.out] at N2;go_wp2_with fail
 refine N2.out.mono ?_;rintro e w2 ⟨pv, nv, cv, rfl, fj, eF, dO⟩;have zh := HX.out.2.1.grown dO (by have := b_.out; intro e; injection e with e; omega);have aP := HX.out.2.2.grown dO (by have := b_.out; intro e; injection e with e; omega);have rV : Hid (w.heap.size ≤ w2.heap.size) := af (acN Dk.out dO.size);have vW : b < X.heap.size := HX.out.2.2.lt;have f5 := aP.fr 5;obtain ⟨OD, x1', QM, SS, QO, QP⟩ := aP.box;obtain ⟨Y, hY⟩ : ∃ Y, w2.setCell ⟨b, 5, none⟩ (.slice pv nv cv) = Y := ⟨_, rfl⟩
 have df : ak w2 Y fun k => k = b := by rw [← hY]; exact aC _ _ _ _
 have fF : bk Y b 5 0 0 0 (.slice none 0 0) (.slice pv nv cv) := by rw [← hY]; exact aP.OC _
 have lN := zh.aU df (by have := b_.out; omega);have Li := eF.later (bV (B := w.heap.size) df (fun k e => by have := b_.out; omega) rV.out) HL.out.1 HL.out.2.1 HL.out.2.2.1;have vq := af (fj.yT df (fun k hk e => by have := (fj.lt k hk).1; omega));have HY := af (acD Li (acD lN fF));have SX : Hid (w.heap.size ≤ Y.heap.size) := af (acN rV.out df.size);have dH : Hid (b < X.heap.size) := af vW;clear eF dO zh aP df fF lN Li N2 x0 x1 x2 x3 x4 x5 OD x1' QM SS QO fj vW;go_upto_region 11 with fail
 clear hY;have nR : Hid (w.heap.size ≤ (Y).heap.size) := af SX.out;have ec := af (HY.out.2.1);obtain ⟨k0, k1, k2, k3, k4, k5⟩ := (HY.out.2.2).box;obtain ⟨j0, j1, j2, j3, j4, j5⟩ := ec.out.box;have JZ := ec.out.fr 0;have J0 := ec.out.fr 1;have Qw := ec.out.fr 2;have Qx := ec.out.fr 3;have Qy := ec.out.fr 4;have Qz := ec.out.fr 5;go_wp2_with fail
 have hst := gW ec.out 5 0 0 0 (.slice none 0 0) (.slice pv nv cv);have hcs := gX Y r 5 0 0 0 (.slice none 0 0) (.slice pv nv cv);unfold wa at hst hcs;have eH := af hst;have xm := bV (B := w.heap.size) hcs (fun k e => by have := b_.out.2.2; omega) nR.out;refine ac0 (v := .agg #[.int .i64 5, .int .i64 0, .int .i64 0, .int .i64 0, .slice none 0 0, .slice pv nv cv]) (by
   generalize (((((World.setCell Y ⟨r, 0, none⟩ (.int .i64 5)).setCell ⟨r, 1, none⟩ (.int .i64 0)).setCell ⟨r, 2, none⟩ (.int .i64 0)).setCell ⟨r, 3, none⟩ (.int .i64 0)).setCell ⟨r, 4, none⟩ (.slice none 0 0)).setCell ⟨r, 5, none⟩ (.slice pv nv cv) = W9 at hst ⊢;obtain ⟨m0, m1, m2, m3, m4, m5⟩ := hst.box;simp [results, results68, go_sem, m0, m1, m2, m3, m4, m5]) rfl ?_
 exact ⟨_, _, _, _, _, _, rfl, aI.nil _ _, (vq.out.yT hcs (fun k hk e => by have h1 := (vq.out.lt k hk).1; have h2 := b_.out; have h3 := dH.out; omega)).mono Dk.out, ((HY.out.1).later xm HL.out.1 HL.out.2.1 HL.out.2.2.1).b⟩
theorem Iu {w0 w : World} {g : Nat} {p : Option Addr} {n c : Nat} {l : List UInt8} (h : rS w0 g (.slice p n c) l w (0, 0)) (hl : l.length ≤ 1100000) (hk : (nx l (0, 0)).1 = 2) : Calls prog 68 #[.pointer (some ⟨g, 0, none⟩)] w (xB w0 w ⟨2, ((nx l (nx l (0, 0)).2).1 : Nat), ((nx l (nx l (nx l (0, 0)).2).2).1 : Nat), 0, (eT (tx l (l.length - (nx l (nx l (nx l (0, 0)).2).2).2.1) (nx l (nx l (nx l (0, 0)).2).2).2).1).1, []⟩) := by
 have hA := (acG w.heap.size w).alloc (acE _) (.cells #[.int .i64 0, .int .i64 0, .int .i64 0, .int .i64 0, .slice none 0 0, .slice none 0 0] 25);have HL := af (acD h.sc.lt (acD h.bp.Qv (acD h.b.size hl)));have HR := af (bk.new (k := 0) (se := 0) (sq := 0) (a := 0) (vs := .slice none 0 0) (vv := .slice none 0 0) w);have N1 := af (ek (h.below hA));have Al := af hA;rw [hk] at N1;obtain ⟨s1, dR⟩ : ∃ s, (nx l (0, 0)).2 = s := ⟨_, rfl⟩
 rw [dR] at N1;rw [dR];obtain ⟨x, hx⟩ : ∃ x, (nx l s1).1 = x := ⟨_, rfl⟩
 obtain ⟨s2, eF⟩ : ∃ s, (nx l s1).2 = s := ⟨_, rfl⟩
 rw [hx, eF];obtain ⟨y, hy⟩ : ∃ x, (nx l s2).1 = x := ⟨_, rfl⟩
 obtain ⟨s3, jH⟩ : ∃ s, (nx l s2).2 = s := ⟨_, rfl⟩
 rw [hy, jH];obtain ⟨T, hT⟩ : ∃ T, (tx l (l.length - s3.1) s3).1 = T := ⟨_, rfl⟩
 rw [hT];obtain ⟨sp, E9, hG⟩ : ∃ sp E, eT T = (sp, E) := ⟨_, _, rfl⟩
 have xk : T.length ≤ l.length := by rw [← hT]; exact sC
 rw [hG];dsimp only;have il := af (acD hx (acD eF (acD hy (acD jH (acD hT (acD hG xk))))));clear h hl hA hk dR hx eF hy jH hT hG xk;go_enter func68, ntmps68
 go_wp2_with fail
 refine N1.out.mono ?_;rintro e w1 ⟨rfl, dR, eQ⟩;have eO := HR.out.grown eQ (by have := HL.out.1; intro e; injection e with e; omega);go_upto_region 2 with fail
 have hB := (acG w1.heap.size w1).alloc (acE _) (.cells #[.int .i64 2, .int .i64 0, .int .i64 0, .int .i64 0, .slice none 0 0, .slice none 0 0] 25);obtain ⟨X, hX⟩ : ∃ X, w1.alloc (.cells #[.int .i64 2, .int .i64 0, .int .i64 0, .int .i64 0, .slice none 0 0, .slice none 0 0] 25) = X := ⟨_, rfl⟩
 have hb := bk.new (k := 2) (se := 0) (sq := 0) (a := 0) (vs := .slice none 0 0) (vv := .slice none 0 0) w1;rw [hX] at hB hb;have om : w.heap.size < w1.heap.size := eO.lt;obtain ⟨b, eS⟩ : ∃ b, w1.heap.size = b := ⟨_, rfl⟩
 obtain ⟨r, cT⟩ : ∃ r, w.heap.size = r := ⟨_, rfl⟩
 rw [eS] at hb om;rw [cT] at eO om;have b_ : Hid (g < r ∧ r < b ∧ w.heap.size = r) := af ⟨by have := HL.out.1; omega, om, cT⟩;have HX := af (acD (dR.below hB) (acD (eO.below hB) hb));have Dk : Hid (w.heap.size ≤ X.heap.size) := af (by have h1 := Al.out.size; have h2 := eQ.size; have h3 := hB.size; omega);obtain ⟨x0, x1, x2, x3, x4, x5⟩ := hb.box;have Kj := af hb;clear dR eQ eO hB hb om N1;rw [hX, eS, cT];clear hX eS cT;have N2 := af (ek HX.out.1);rw [il.out.1, il.out.2.1] at N2;go_wp2_with fail
 refine N2.out.mono ?_;rintro e w2 ⟨rfl, eF, dO⟩;have rh := af (acD eF (acD (HX.out.2.1.grown dO (by have := b_.out; intro e; injection e with e; omega)) (HX.out.2.2.grown dO (by have := b_.out; intro e; injection e with e; omega))));have rV : Hid (w.heap.size ≤ w2.heap.size) := af (acN Dk.out dO.size);have dH : Hid (b < X.heap.size) := af HX.out.2.2.lt;have HXW : Hid (X.heap.size ≤ w2.heap.size) := af dO.size;have N3 := af (ek rh.out.1);rw [il.out.2.2.1, il.out.2.2.2.1] at N3;clear eF dO N2;go_wp2_with fail
 refine N3.out.mono ?_;rintro e w3 ⟨rfl, jH, fE⟩;have W_ := rh.out.2.1.grown fE (by have := b_.out; intro e; injection e with e; omega);have cF := rh.out.2.2.grown fE (by have := b_.out; intro e; injection e with e; omega);have wv : Hid (w.heap.size ≤ w3.heap.size) := af (acN rV.out fE.size);have aaw : Hid (X.heap.size ≤ w3.heap.size) := af (acN HXW.out fE.size);have f1 := cF.fr 1;have f2 := cF.fr 2;obtain ⟨OD, x1', QM, SS, QO, QP⟩ := cF.box;obtain ⟨Y, hY⟩ : ∃ Y, (w3.setCell ⟨b, 1, none⟩ (.int .i64 (x : Nat))).setCell ⟨b, 2, none⟩ (.int .i64 (y : Nat)) = Y := ⟨_, rfl⟩
 have df : ak w3 Y fun k => k = b := by rw [← hY]; exact eG (aC _ _ _ _) (aC _ _ _ _)
 have fF : bk Y b 2 (x : Nat) (y : Nat) 0 (.slice none 0 0) (.slice none 0 0) := by rw [← hY]; exact (cF.set1 _).set2 _
 have lN := W_.aU df (by have := b_.out; omega);have Li := jH.later (bV (B := w.heap.size) df (fun k e => by have := b_.out; omega) wv.out) HL.out.1 HL.out.2.1 HL.out.2.2.1;have HY := af (acD Li (acD lN fF));have SX : Hid (w.heap.size ≤ Y.heap.size) := af (acN wv.out df.size);have HXY : Hid (X.heap.size ≤ Y.heap.size) := af (acN aaw.out df.size);clear jH fE W_ cF df fF lN Li N3 x0 x1 x2 x3 x4 x5 OD SS QO QP;go_upto_region 5 with fail
 clear hY;have TX := af (qh HY.out.1 HL.out.2.2.2);rw [il.out.2.2.2.2.1] at TX;go_wp2_with fail
 refine TX.out.mono ?_;rintro e w4 ⟨p4, n4, c4, rfl, iP, J1, lz⟩;have Wq := af (acD J1 (acD (HY.out.2.1.grown lz (by have := b_.out; intro e; injection e with e; omega)) (HY.out.2.2.grown lz (by have := b_.out; intro e; injection e with e; omega))));have Nx : Hid (w.heap.size ≤ w4.heap.size ∧ X.heap.size ≤ w4.heap.size) := af ⟨acN SX.out lz.size, acN HXY.out lz.size⟩;have GT := af (FX iP.bp (by have := il.out.2.2.2.2.2.2; have := HL.out.2.2.2; omega) il.out.2.2.2.2.2.1);clear iP J1 lz TX;go_wp2_with fail
 refine GT.out.mono ?_;rintro e w5 ⟨v5, rfl, bP, aL⟩;obtain ⟨pv, nv, cv, rfl⟩ := bP.gp.sl;have oY := Wq.out.2.1.below aL;have Vo := Wq.out.2.2.below aL;have Xa : Hid (w.heap.size ≤ w5.heap.size) := af (acN Nx.out.1 aL.size);have f4 := Vo.fr 4;obtain ⟨OD, x1', QM, SS, QO, QP⟩ := Vo.box;obtain ⟨V, hV⟩ : ∃ Y, w5.setCell ⟨b, 4, none⟩ (.slice pv nv cv) = Y := ⟨_, rfl⟩
 have Xb : ak w5 V fun k => k = b := by rw [← hV]; exact aC _ _ _ _
 have J5 : bk V b 2 (x : Nat) (y : Nat) 0 (.slice pv nv cv) (.slice none 0 0) := by rw [← hV]; exact Vo.OB _
 have hrV := oY.aU Xb (by have := b_.out; omega);have hsV := (Wq.out.1.below aL).later (bV (B := w.heap.size) Xb (fun k e => by have := b_.out; omega) Xa.out) HL.out.1 HL.out.2.1 HL.out.2.2.1;have vq := af ((bP.mono Nx.out.2).yT Xb (fun k hk e => by have h1 := (bP.lt k hk).1; have h2 := dH.out; have h3 := Nx.out.2; omega));have HV := af (acD hsV (acD hrV J5));have HGV : Hid (w.heap.size ≤ V.heap.size) := af (acN Xa.out Xb.size);clear bP aL oY Vo Xb J5 hrV hsV GT OD x1' QM SS QP;go_upto_region 11 with fail
 clear hV;have nR : Hid (w.heap.size ≤ (V).heap.size) := af HGV.out;have ec := af (HV.out.2.1);obtain ⟨k0, k1, k2, k3, k4, k5⟩ := (HV.out.2.2).box;obtain ⟨j0, j1, j2, j3, j4, j5⟩ := ec.out.box;have JZ := ec.out.fr 0;have J0 := ec.out.fr 1;have Qw := ec.out.fr 2;have Qx := ec.out.fr 3;have Qy := ec.out.fr 4;have Qz := ec.out.fr 5;go_wp2_with fail
 have hst := gW ec.out 2 (x : Nat) (y : Nat) 0 (.slice pv nv cv) (.slice none 0 0);have hcs := gX V r 2 (x : Nat) (y : Nat) 0 (.slice pv nv cv) (.slice none 0 0);unfold wa at hst hcs;have eH := af hst;have xm := bV (B := w.heap.size) hcs (fun k e => by have := b_.out.2.2; omega) nR.out;refine ac0 (v := .agg #[.int .i64 2, .int .i64 (x : Nat), .int .i64 (y : Nat), .int .i64 0, .slice pv nv cv, .slice none 0 0]) (by
   generalize (((((World.setCell V ⟨r, 0, none⟩ (.int .i64 2)).setCell ⟨r, 1, none⟩ (.int .i64 (x : Nat))).setCell ⟨r, 2, none⟩ (.int .i64 (y : Nat))).setCell ⟨r, 3, none⟩ (.int .i64 0)).setCell ⟨r, 4, none⟩ (.slice pv nv cv)).setCell ⟨r, 5, none⟩ (.slice none 0 0) = W9 at hst ⊢;obtain ⟨m0, m1, m2, m3, m4, m5⟩ := hst.box;simp [results, results68, go_sem, m0, m1, m2, m3, m4, m5]) rfl ?_
 exact ⟨_, _, _, _, _, _, rfl, (vq.out.yT hcs (fun k hk e => by have h1 := (vq.out.lt k hk).1; have h2 := b_.out; have h3 := dH.out; omega)).mono Dk.out, bJ.nil _ _, ((HV.out.1).later xm HL.out.1 HL.out.2.1 HL.out.2.2.1).b⟩
theorem qk {w0 w : World} {g : Nat} {p : Option Addr} {n c : Nat} {l : List UInt8} (h : rS w0 g (.slice p n c) l w (0, 0)) (hl : l.length ≤ 1100000) : Calls prog 68 #[.pointer (some ⟨g, 0, none⟩)] w (xB w0 w (rT l)) := by
 unfold rT;dsimp only;by_cases h2 : (nx l (0, 0)).1 = 2
 ·rw [acW h2, h2];exact Iu h hl h2
 by_cases h3 : (nx l (0, 0)).1 = 3
 ·rw [acO h2, acW h3, h3];exact Ip h hl h3
 by_cases h4 : (nx l (0, 0)).1 = 4
 ·rw [acO h2, acO h3, acW h4, h4];exact Iq h hl h4
 by_cases h5 : (nx l (0, 0)).1 = 5
 ·rw [acO h2, acO h3, acO h4, acW h5, h5];exact Ir h hl h5
 rw [acO h2, acO h3, acO h4, acO h5];exact Io h hl rfl h2 h3 h4 h5
end Go.Proofs.YtionbmlicmibgaaGreatDoor
