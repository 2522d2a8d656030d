import Derived.Test.YtionbmlicmibgaaGreatDoorMcGet
namespace Go.Proofs.YtionbmlicmibgaaGreatDoor
set_option linter.unusedVariables false
set_option linter.unusedSimpArgs false
open Go.RowKit
def RowC (w : World) (b : Nat) (k se sq a : Int) (vs vv : Value) : Prop := w.heap[b]? = some (.cells #[.int .i64 k, .int .i64 se, .int .i64 sq, .int .i64 a, vs, vv] 25 (0, 0))
section
variable {w w' : World} {b : Nat} {k se sq a : Int} {vs vv : Value}
theorem RowC.new (w : World) : RowC (w.alloc (.cells #[.int .i64 k, .int .i64 se, .int .i64 sq, .int .i64 a, vs, vv] 25)) w.heap.size k se sq a vs vv := heap_alloc_new _ _
theorem RowC.box (h : RowC w b k se sq a vs vv) : BoxC w b k se sq a vs vv := ⟨cell_of_row w b 0 _ 25 (0, 0) h, cell_of_row w b 1 _ 25 (0, 0) h, cell_of_row w b 2 _ 25 (0, 0) h, cell_of_row w b 3 _ 25 (0, 0) h, cell_of_row w b 4 _ 25 (0, 0) h, cell_of_row w b 5 _ 25 (0, 0) h⟩
theorem RowC.fr (h : RowC w b k se sq a vs vv) (i : Nat) : w.frozen? ⟨b, i, none⟩ = false := frozen_of_row w b i _ 25 h
theorem RowC.lt (h : RowC w b k se sq a vs vv) : b < w.heap.size := lt_of_cell h.box.1
theorem RowC.below (h : RowC w b k se sq a vs vv) (hb : Below w.heap.size w w') : RowC w' b k se sq a vs vv := (hb.block b h.lt).trans h
theorem RowC.grown {row : Option Nat} (h : RowC w b k se sq a vs vv) (hg : w.grownBy w' row) (hne : row ≠ some b) : RowC w' b k se sq a vs vv := (hg.block b h.lt (fun e => hne e.symm)).trans h
theorem RowC.chg {S : Nat → Prop} (h : RowC w b k se sq a vs vv) (hc : Chg w w' S) (hne : ¬ S b) : RowC w' b k se sq a vs vv := (hc.block b h.lt hne).trans h
theorem RowC.set0 (h : RowC w b k se sq a vs vv) (x : Int) : RowC (w.setCell ⟨b, 0, none⟩ (.int .i64 x)) b x se sq a vs vv := by unfold RowC at *; rw [heap_setCell_same w b 0 _ 25 _ h]; rfl
theorem RowC.set1 (h : RowC w b k se sq a vs vv) (x : Int) : RowC (w.setCell ⟨b, 1, none⟩ (.int .i64 x)) b k x sq a vs vv := by unfold RowC at *; rw [heap_setCell_same w b 1 _ 25 _ h]; rfl
theorem RowC.set2 (h : RowC w b k se sq a vs vv) (x : Int) : RowC (w.setCell ⟨b, 2, none⟩ (.int .i64 x)) b k se x a vs vv := by unfold RowC at *; rw [heap_setCell_same w b 2 _ 25 _ h]; rfl
theorem RowC.set3 (h : RowC w b k se sq a vs vv) (x : Int) : RowC (w.setCell ⟨b, 3, none⟩ (.int .i64 x)) b k se sq x vs vv := by unfold RowC at *; rw [heap_setCell_same w b 3 _ 25 _ h]; rfl
theorem RowC.set4 (h : RowC w b k se sq a vs vv) (x : Value) : RowC (w.setCell ⟨b, 4, none⟩ x) b k se sq a x vv := by unfold RowC at *; rw [heap_setCell_same w b 4 _ 25 _ h]; rfl
theorem RowC.set5 (h : RowC w b k se sq a vs vv) (x : Value) : RowC (w.setCell ⟨b, 5, none⟩ x) b k se sq a vs x := by unfold RowC at *; rw [heap_setCell_same w b 5 _ 25 _ h]; rfl
theorem chg_set (w : World) (b i : Nat) (x : Value) : Chg w (w.setCell ⟨b, i, none⟩ x) fun k => k = b := Chg.of_grown (grown_set w b i x) _ (fun k e => by injection e with e; exact .inl e.symm)
end
theorem chg_belowB {a c : World} {S : Nat → Prop} {B : Nat} (h : Chg a c S) (hS : ∀ k, S k → B ≤ k) (hB : B ≤ a.heap.size) : Below B a c := ⟨h.os, h.tape, h.output, h.size, fun k hk => h.block k (Nat.lt_of_lt_of_le hk hB) (fun e => by have := hS k e; omega)⟩
def setC (w : World) (b : Nat) (k se sq a : Int) (vs vv : Value) : World := (((((w.setCell ⟨b, 0, none⟩ (.int .i64 k)).setCell ⟨b, 1, none⟩ (.int .i64 se)).setCell ⟨b, 2, none⟩ (.int .i64 sq)).setCell ⟨b, 3, none⟩ (.int .i64 a)).setCell ⟨b, 4, none⟩ vs).setCell ⟨b, 5, none⟩ vv
theorem setC_row {w : World} {b : Nat} {k se sq a : Int} {vs vv : Value} (h : RowC w b k se sq a vs vv) (k' se' sq' a' : Int) (vs' vv' : Value) : RowC (setC w b k' se' sq' a' vs' vv') b k' se' sq' a' vs' vv' := (((((h.set0 k').set1 se').set2 sq').set3 a').set4 vs').set5 vv'
theorem chgS {w a c : World} {b : Nat} (h : Chg w a fun k => k = b) (h' : Chg a c fun k => k = b) : Chg w c fun k => k = b := h.trans h' (fun k e => .inl e)
theorem setC_chg (w : World) (b : Nat) (k' se' sq' a' : Int) (vs' vv' : Value) : Chg w (setC w b k' se' sq' a' vs' vv') fun k => k = b :=
 chgS (chgS (chgS (chgS (chgS (chg_set _ _ _ _) (chg_set _ _ _ _)) (chg_set _ _ _ _)) (chg_set _ _ _ _)) (chg_set _ _ _ _)) (chg_set _ _ _ _)
theorem OwnS.chgB {B b : Nat} {w w' : World} {v : Value} {l : List Sp} (h : OwnS B w v l) (hc : Chg w w' fun k => k = b) (hne : ∀ k, v.ownBlock = some k → k ≠ b) : OwnS B w' v l := by
 refine World.ownsRow.kept (row := some b) h ⟨hc.os, hc.tape, hc.output, hc.size, fun k hk hr => hc.block k hk fun e => hr (by rw [e])⟩ ?_
 cases hob : v.ownBlock with
 | none => exact .inl rfl
 | some k => exact .inr fun e => hne k hob (by injection e)
theorem OwnN.chgB {B b : Nat} {w w' : World} {v : Value} {l : List Int} (h : OwnN B w v l) (hc : Chg w w' fun k => k = b) (hne : ∀ k, v.ownBlock = some k → k ≠ b) : OwnN B w' v l := by
 refine ⟨World.ownsRow.kept (row := some b) h.1 ⟨hc.os, hc.tape, hc.output, hc.size, fun k hk hr => hc.block k hk fun e => hr (by rw [e])⟩ ?_, h.2⟩
 cases hob : v.ownBlock with
 | none => exact .inl rfl
 | some k => exact .inr fun e => hne k hob (by injection e)
def ReadP (w0 w : World) (c : Cm) (e : Ending) (w' : World) : Prop := ∃ p n d q m f, e = .returned (cmV c (.slice p n d) (.slice q m f)) ∧ OwnS w.heap.size w' (.slice p n d) c.sp ∧ OwnN w.heap.size w' (.slice q m f) c.vo ∧ Below w0.heap.size w0 w'
set_option maxRecDepth 200000 in
set_option maxHeartbeats 8000000 in
theorem readO_any {w0 w : World} {g : Nat} {p : Option Addr} {n c : Nat} {l : List UInt8} (h : ScB w0 g (.slice p n c) l w (0, 0)) (hl : l.length ≤ 1100000) {k : Nat} (hk : (nx l (0, 0)).1 = k) (h2 : k ≠ 2) (h3 : k ≠ 3) (h4 : k ≠ 4) (h5 : k ≠ 5) : Calls Tryz.prog 68 #[.pointer (some ⟨g, 0, none⟩)] w (ReadP w0 w ⟨k, 0, 0, 0, [], []⟩) := by
 have hA := (Below.refl w.heap.size w).alloc (Nat.le_refl _) (.cells #[.int .i64 0, .int .i64 0, .int .i64 0, .int .i64 0, .slice none 0 0, .slice none 0 0] 25)
 have HL := hide (And.intro h.sc.lt (And.intro h.by_.ltM (And.intro h.b.size hl)))
 have HR := hide (RowC.new (k := 0) (se := 0) (sq := 0) (a := 0) (vs := .slice none 0 0) (vv := .slice none 0 0) w)
 have N1 := hide (scn_any (h.below hA))
 have HBA := hide hA
 have e2 : ((k : Int) == 2) = false := by simp; omega
 have e3 : ((k : Int) == 3) = false := by simp; omega
 have e4 : ((k : Int) == 4) = false := by simp; omega
 have e5 : ((k : Int) == 5) = false := by simp; omega
 rw [hk] at N1
 clear h hl hA hk h2 h3 h4 h5
 go_enter Tryz.func68, Tryz.ntmps68
 go_wp2_with fail
 refine N1.out.mono ?_
 rintro e w1 ⟨rfl, hs1, hg1⟩
 have hr1 := HR.out.grown hg1 (by have := HL.out.1; intro e; injection e with e; omega)
 go_upto_region 2 with fail
 have hB := (Below.refl w1.heap.size w1).alloc (Nat.le_refl _) (.cells #[.int .i64 (k : Nat), .int .i64 0, .int .i64 0, .int .i64 0, .slice none 0 0, .slice none 0 0] 25)
 obtain ⟨X, hX⟩ : ∃ X, w1.alloc (.cells #[.int .i64 (k : Nat), .int .i64 0, .int .i64 0, .int .i64 0, .slice none 0 0, .slice none 0 0] 25) = X := ⟨_, rfl⟩
 have hb := RowC.new (k := (k : Nat)) (se := 0) (sq := 0) (a := 0) (vs := .slice none 0 0) (vv := .slice none 0 0) w1
 rw [hX] at hB hb
 have hrb : w.heap.size < w1.heap.size := hr1.lt
 obtain ⟨b, hbe⟩ : ∃ b, w1.heap.size = b := ⟨_, rfl⟩
 obtain ⟨r, hre⟩ : ∃ r, w.heap.size = r := ⟨_, rfl⟩
 rw [hbe] at hb hrb
 rw [hre] at hr1 hrb
 have HRB : Hid (g < r ∧ r < b ∧ w.heap.size = r) := hide ⟨by have := HL.out.1; omega, hrb, hre⟩
 have HX := hide (And.intro (hs1.below hB) (And.intro (hr1.below hB) hb))
 have HGX : Hid (w.heap.size ≤ X.heap.size) := hide (by have h1 := HBA.out.size; have h2 := hg1.size; have h3 := hB.size; omega)
 obtain ⟨x0, x1, x2, x3, x4, x5⟩ := hb.box
 have HFX := hide hb
 clear hs1 hg1 hr1 hB hb hrb N1
 rw [hX, hbe, hre]
 clear hX hbe hre
 have HSZ : Hid (w.heap.size ≤ (X).heap.size) := hide HGX.out
 have HWr := hide (HX.out.2.1)
 obtain ⟨k0, k1, k2, k3, k4, k5⟩ := (HX.out.2.2).box
 obtain ⟨j0, j1, j2, j3, j4, j5⟩ := HWr.out.box
 have fr0 := HWr.out.fr 0
 have fr1 := HWr.out.fr 1
 have fr2 := HWr.out.fr 2
 have fr3 := HWr.out.fr 3
 have fr4 := HWr.out.fr 4
 have fr5 := HWr.out.fr 5
 go_wp2_with fail
 have hst := setC_row HWr.out (k : Nat) 0 0 0 (.slice none 0 0) (.slice none 0 0)
 have hcs := setC_chg X r (k : Nat) 0 0 0 (.slice none 0 0) (.slice none 0 0)
 unfold setC at hst hcs
 have HST := hide hst
 have hcb := chg_belowB (B := w.heap.size) hcs (fun k e => by have := HRB.out.2.2; omega) HSZ.out
 refine bodyPost_ret (v := .agg #[.int .i64 (k : Nat), .int .i64 0, .int .i64 0, .int .i64 0, .slice none 0 0, .slice none 0 0]) (by
   generalize (((((World.setCell X ⟨r, 0, none⟩ (.int .i64 (k : Nat))).setCell ⟨r, 1, none⟩ (.int .i64 0)).setCell ⟨r, 2, none⟩ (.int .i64 0)).setCell ⟨r, 3, none⟩ (.int .i64 0)).setCell ⟨r, 4, none⟩ (.slice none 0 0)).setCell ⟨r, 5, none⟩ (.slice none 0 0) = W9 at hst ⊢
   obtain ⟨m0, m1, m2, m3, m4, m5⟩ := hst.box
   simp [results, Tryz.results68, go_sem, m0, m1, m2, m3, m4, m5]) rfl ?_
 exact ⟨_, _, _, _, _, _, rfl, OwnS.nil _ _, OwnN.nil _ _, ((HX.out.1).later hcb HL.out.1 HL.out.2.1 HL.out.2.2.1).b⟩
set_option maxRecDepth 200000 in
set_option maxHeartbeats 8000000 in
theorem read3_any {w0 w : World} {g : Nat} {p : Option Addr} {n c : Nat} {l : List UInt8} (h : ScB w0 g (.slice p n c) l w (0, 0)) (hl : l.length ≤ 1100000) (hk : (nx l (0, 0)).1 = 3) : Calls Tryz.prog 68 #[.pointer (some ⟨g, 0, none⟩)] w (ReadP w0 w ⟨3, 0, 0, ((nx l (nx l (0, 0)).2).1 : Nat), [], []⟩) := by
 have hA := (Below.refl w.heap.size w).alloc (Nat.le_refl _) (.cells #[.int .i64 0, .int .i64 0, .int .i64 0, .int .i64 0, .slice none 0 0, .slice none 0 0] 25)
 have HL := hide (And.intro h.sc.lt (And.intro h.by_.ltM (And.intro h.b.size hl)))
 have HR := hide (RowC.new (k := 0) (se := 0) (sq := 0) (a := 0) (vs := .slice none 0 0) (vv := .slice none 0 0) w)
 have N1 := hide (scn_any (h.below hA))
 have HBA := hide hA
 rw [hk] at N1
 obtain ⟨s1, hs1⟩ : ∃ s, (nx l (0, 0)).2 = s := ⟨_, rfl⟩
 rw [hs1] at N1
 rw [hs1]
 obtain ⟨x, hx⟩ : ∃ x, (nx l s1).1 = x := ⟨_, rfl⟩
 obtain ⟨s2, hs2⟩ : ∃ s, (nx l s1).2 = s := ⟨_, rfl⟩
 rw [hx]
 have HXS := hide (And.intro hx hs2)
 clear h hl hA hk hs1 hx hs2
 go_enter Tryz.func68, Tryz.ntmps68
 go_wp2_with fail
 refine N1.out.mono ?_
 rintro e w1 ⟨rfl, hs1, hg1⟩
 have hr1 := HR.out.grown hg1 (by have := HL.out.1; intro e; injection e with e; omega)
 go_upto_region 2 with fail
 have hB := (Below.refl w1.heap.size w1).alloc (Nat.le_refl _) (.cells #[.int .i64 3, .int .i64 0, .int .i64 0, .int .i64 0, .slice none 0 0, .slice none 0 0] 25)
 obtain ⟨X, hX⟩ : ∃ X, w1.alloc (.cells #[.int .i64 3, .int .i64 0, .int .i64 0, .int .i64 0, .slice none 0 0, .slice none 0 0] 25) = X := ⟨_, rfl⟩
 have hb := RowC.new (k := 3) (se := 0) (sq := 0) (a := 0) (vs := .slice none 0 0) (vv := .slice none 0 0) w1
 rw [hX] at hB hb
 have hrb : w.heap.size < w1.heap.size := hr1.lt
 obtain ⟨b, hbe⟩ : ∃ b, w1.heap.size = b := ⟨_, rfl⟩
 obtain ⟨r, hre⟩ : ∃ r, w.heap.size = r := ⟨_, rfl⟩
 rw [hbe] at hb hrb
 rw [hre] at hr1 hrb
 have HRB : Hid (g < r ∧ r < b ∧ w.heap.size = r) := hide ⟨by have := HL.out.1; omega, hrb, hre⟩
 have HX := hide (And.intro (hs1.below hB) (And.intro (hr1.below hB) hb))
 have HGX : Hid (w.heap.size ≤ X.heap.size) := hide (by have h1 := HBA.out.size; have h2 := hg1.size; have h3 := hB.size; omega)
 obtain ⟨x0, x1, x2, x3, x4, x5⟩ := hb.box
 have HFX := hide hb
 clear hs1 hg1 hr1 hB hb hrb N1
 rw [hX, hbe, hre]
 clear hX hbe hre
 have N2 := hide (scn_any HX.out.1)
 rw [HXS.out.1, HXS.out.2] at N2
 go_wp2_with fail
 refine N2.out.mono ?_
 rintro e w2 ⟨rfl, hs2, hg2⟩
 have hr2 := HX.out.2.1.grown hg2 (by have := HRB.out; intro e; injection e with e; omega)
 have hb2 := HX.out.2.2.grown hg2 (by have := HRB.out; intro e; injection e with e; omega)
 have HG2 : Hid (w.heap.size ≤ w2.heap.size) := hide (Nat.le_trans HGX.out hg2.size)
 have f3 := hb2.fr 3
 obtain ⟨x0', x1', x2', x3', x4', x5'⟩ := hb2.box
 obtain ⟨Y, hY⟩ : ∃ Y, w2.setCell ⟨b, 3, none⟩ (.int .i64 (x : Nat)) = Y := ⟨_, rfl⟩
 have hcY : Chg w2 Y fun k => k = b := by rw [← hY]; exact chg_set _ _ _ _
 have hbY : RowC Y b 3 0 0 (x : Nat) (.slice none 0 0) (.slice none 0 0) := by rw [← hY]; exact hb2.set3 _
 have hrY := hr2.chg hcY (by have := HRB.out; omega)
 have hsY := hs2.later (chg_belowB (B := w.heap.size) hcY (fun k e => by have := HRB.out; omega) HG2.out) HL.out.1 HL.out.2.1 HL.out.2.2.1
 have HY := hide (And.intro hsY (And.intro hrY hbY))
 have HGY : Hid (w.heap.size ≤ Y.heap.size) := hide (Nat.le_trans HG2.out hcY.size)
 clear hs2 hg2 hr2 hb2 hcY hbY hrY hsY N2 x0 x1 x2 x3 x4 x5 x0' x1' x2' x4' x5'
 go_upto_region 11 with fail
 clear hY
 have HSZ : Hid (w.heap.size ≤ (Y).heap.size) := hide HGY.out
 have HWr := hide (HY.out.2.1)
 obtain ⟨k0, k1, k2, k3, k4, k5⟩ := (HY.out.2.2).box
 obtain ⟨j0, j1, j2, j3, j4, j5⟩ := HWr.out.box
 have fr0 := HWr.out.fr 0
 have fr1 := HWr.out.fr 1
 have fr2 := HWr.out.fr 2
 have fr3 := HWr.out.fr 3
 have fr4 := HWr.out.fr 4
 have fr5 := HWr.out.fr 5
 go_wp2_with fail
 have hst := setC_row HWr.out 3 0 0 (x : Nat) (.slice none 0 0) (.slice none 0 0)
 have hcs := setC_chg Y r 3 0 0 (x : Nat) (.slice none 0 0) (.slice none 0 0)
 unfold setC at hst hcs
 have HST := hide hst
 have hcb := chg_belowB (B := w.heap.size) hcs (fun k e => by have := HRB.out.2.2; omega) HSZ.out
 refine bodyPost_ret (v := .agg #[.int .i64 3, .int .i64 0, .int .i64 0, .int .i64 (x : Nat), .slice none 0 0, .slice none 0 0]) (by
   generalize (((((World.setCell Y ⟨r, 0, none⟩ (.int .i64 3)).setCell ⟨r, 1, none⟩ (.int .i64 0)).setCell ⟨r, 2, none⟩ (.int .i64 0)).setCell ⟨r, 3, none⟩ (.int .i64 (x : Nat))).setCell ⟨r, 4, none⟩ (.slice none 0 0)).setCell ⟨r, 5, none⟩ (.slice none 0 0) = W9 at hst ⊢
   obtain ⟨m0, m1, m2, m3, m4, m5⟩ := hst.box
   simp [results, Tryz.results68, go_sem, m0, m1, m2, m3, m4, m5]) rfl ?_
 exact ⟨_, _, _, _, _, _, rfl, OwnS.nil _ _, OwnN.nil _ _, ((HY.out.1).later hcb HL.out.1 HL.out.2.1 HL.out.2.2.1).b⟩
set_option maxRecDepth 200000 in
set_option maxHeartbeats 8000000 in
theorem read4_any {w0 w : World} {g : Nat} {p : Option Addr} {n c : Nat} {l : List UInt8} (h : ScB w0 g (.slice p n c) l w (0, 0)) (hl : l.length ≤ 1100000) (hk : (nx l (0, 0)).1 = 4) : Calls Tryz.prog 68 #[.pointer (some ⟨g, 0, none⟩)] w (ReadP w0 w ⟨4, 0, 0, ((nx l (nx l (0, 0)).2).1 : Nat), [], []⟩) := by
 have hA := (Below.refl w.heap.size w).alloc (Nat.le_refl _) (.cells #[.int .i64 0, .int .i64 0, .int .i64 0, .int .i64 0, .slice none 0 0, .slice none 0 0] 25)
 have HL := hide (And.intro h.sc.lt (And.intro h.by_.ltM (And.intro h.b.size hl)))
 have HR := hide (RowC.new (k := 0) (se := 0) (sq := 0) (a := 0) (vs := .slice none 0 0) (vv := .slice none 0 0) w)
 have N1 := hide (scn_any (h.below hA))
 have HBA := hide hA
 rw [hk] at N1
 obtain ⟨s1, hs1⟩ : ∃ s, (nx l (0, 0)).2 = s := ⟨_, rfl⟩
 rw [hs1] at N1
 rw [hs1]
 obtain ⟨x, hx⟩ : ∃ x, (nx l s1).1 = x := ⟨_, rfl⟩
 obtain ⟨s2, hs2⟩ : ∃ s, (nx l s1).2 = s := ⟨_, rfl⟩
 rw [hx]
 have HXS := hide (And.intro hx hs2)
 clear h hl hA hk hs1 hx hs2
 go_enter Tryz.func68, Tryz.ntmps68
 go_wp2_with fail
 refine N1.out.mono ?_
 rintro e w1 ⟨rfl, hs1, hg1⟩
 have hr1 := HR.out.grown hg1 (by have := HL.out.1; intro e; injection e with e; omega)
 go_upto_region 2 with fail
 have hB := (Below.refl w1.heap.size w1).alloc (Nat.le_refl _) (.cells #[.int .i64 4, .int .i64 0, .int .i64 0, .int .i64 0, .slice none 0 0, .slice none 0 0] 25)
 obtain ⟨X, hX⟩ : ∃ X, w1.alloc (.cells #[.int .i64 4, .int .i64 0, .int .i64 0, .int .i64 0, .slice none 0 0, .slice none 0 0] 25) = X := ⟨_, rfl⟩
 have hb := RowC.new (k := 4) (se := 0) (sq := 0) (a := 0) (vs := .slice none 0 0) (vv := .slice none 0 0) w1
 rw [hX] at hB hb
 have hrb : w.heap.size < w1.heap.size := hr1.lt
 obtain ⟨b, hbe⟩ : ∃ b, w1.heap.size = b := ⟨_, rfl⟩
 obtain ⟨r, hre⟩ : ∃ r, w.heap.size = r := ⟨_, rfl⟩
 rw [hbe] at hb hrb
 rw [hre] at hr1 hrb
 have HRB : Hid (g < r ∧ r < b ∧ w.heap.size = r) := hide ⟨by have := HL.out.1; omega, hrb, hre⟩
 have HX := hide (And.intro (hs1.below hB) (And.intro (hr1.below hB) hb))
 have HGX : Hid (w.heap.size ≤ X.heap.size) := hide (by have h1 := HBA.out.size; have h2 := hg1.size; have h3 := hB.size; omega)
 obtain ⟨x0, x1, x2, x3, x4, x5⟩ := hb.box
 have HFX := hide hb
 clear hs1 hg1 hr1 hB hb hrb N1
 rw [hX, hbe, hre]
 clear hX hbe hre
 have N2 := hide (scn_any HX.out.1)
 rw [HXS.out.1, HXS.out.2] at N2
 go_wp2_with fail
 refine N2.out.mono ?_
 rintro e w2 ⟨rfl, hs2, hg2⟩
 have hr2 := HX.out.2.1.grown hg2 (by have := HRB.out; intro e; injection e with e; omega)
 have hb2 := HX.out.2.2.grown hg2 (by have := HRB.out; intro e; injection e with e; omega)
 have HG2 : Hid (w.heap.size ≤ w2.heap.size) := hide (Nat.le_trans HGX.out hg2.size)
 have f3 := hb2.fr 3
 obtain ⟨x0', x1', x2', x3', x4', x5'⟩ := hb2.box
 obtain ⟨Y, hY⟩ : ∃ Y, w2.setCell ⟨b, 3, none⟩ (.int .i64 (x : Nat)) = Y := ⟨_, rfl⟩
 have hcY : Chg w2 Y fun k => k = b := by rw [← hY]; exact chg_set _ _ _ _
 have hbY : RowC Y b 4 0 0 (x : Nat) (.slice none 0 0) (.slice none 0 0) := by rw [← hY]; exact hb2.set3 _
 have hrY := hr2.chg hcY (by have := HRB.out; omega)
 have hsY := hs2.later (chg_belowB (B := w.heap.size) hcY (fun k e => by have := HRB.out; omega) HG2.out) HL.out.1 HL.out.2.1 HL.out.2.2.1
 have HY := hide (And.intro hsY (And.intro hrY hbY))
 have HGY : Hid (w.heap.size ≤ Y.heap.size) := hide (Nat.le_trans HG2.out hcY.size)
 clear hs2 hg2 hr2 hb2 hcY hbY hrY hsY N2 x0 x1 x2 x3 x4 x5 x0' x1' x2' x4' x5'
 go_upto_region 11 with fail
 clear hY
 have HSZ : Hid (w.heap.size ≤ (Y).heap.size) := hide HGY.out
 have HWr := hide (HY.out.2.1)
 obtain ⟨k0, k1, k2, k3, k4, k5⟩ := (HY.out.2.2).box
 obtain ⟨j0, j1, j2, j3, j4, j5⟩ := HWr.out.box
 have fr0 := HWr.out.fr 0
 have fr1 := HWr.out.fr 1
 have fr2 := HWr.out.fr 2
 have fr3 := HWr.out.fr 3
 have fr4 := HWr.out.fr 4
 have fr5 := HWr.out.fr 5
 go_wp2_with fail
 have hst := setC_row HWr.out 4 0 0 (x : Nat) (.slice none 0 0) (.slice none 0 0)
 have hcs := setC_chg Y r 4 0 0 (x : Nat) (.slice none 0 0) (.slice none 0 0)
 unfold setC at hst hcs
 have HST := hide hst
 have hcb := chg_belowB (B := w.heap.size) hcs (fun k e => by have := HRB.out.2.2; omega) HSZ.out
 refine bodyPost_ret (v := .agg #[.int .i64 4, .int .i64 0, .int .i64 0, .int .i64 (x : Nat), .slice none 0 0, .slice none 0 0]) (by
   generalize (((((World.setCell Y ⟨r, 0, none⟩ (.int .i64 4)).setCell ⟨r, 1, none⟩ (.int .i64 0)).setCell ⟨r, 2, none⟩ (.int .i64 0)).setCell ⟨r, 3, none⟩ (.int .i64 (x : Nat))).setCell ⟨r, 4, none⟩ (.slice none 0 0)).setCell ⟨r, 5, none⟩ (.slice none 0 0) = W9 at hst ⊢
   obtain ⟨m0, m1, m2, m3, m4, m5⟩ := hst.box
   simp [results, Tryz.results68, go_sem, m0, m1, m2, m3, m4, m5]) rfl ?_
 exact ⟨_, _, _, _, _, _, rfl, OwnS.nil _ _, OwnN.nil _ _, ((HY.out.1).later hcb HL.out.1 HL.out.2.1 HL.out.2.2.1).b⟩
set_option maxRecDepth 200000 in
set_option maxHeartbeats 8000000 in
theorem read5_any {w0 w : World} {g : Nat} {p : Option Addr} {n c : Nat} {l : List UInt8} (h : ScB w0 g (.slice p n c) l w (0, 0)) (hl : l.length ≤ 1100000) (hk : (nx l (0, 0)).1 = 5) : Calls Tryz.prog 68 #[.pointer (some ⟨g, 0, none⟩)] w (ReadP w0 w ⟨5, 0, 0, 0, [], (rdV l (nx l (0, 0)).2).1⟩) := by
 have hA := (Below.refl w.heap.size w).alloc (Nat.le_refl _) (.cells #[.int .i64 0, .int .i64 0, .int .i64 0, .int .i64 0, .slice none 0 0, .slice none 0 0] 25)
 have HL := hide (And.intro h.sc.lt (And.intro h.by_.ltM (And.intro h.b.size hl)))
 have HR := hide (RowC.new (k := 0) (se := 0) (sq := 0) (a := 0) (vs := .slice none 0 0) (vv := .slice none 0 0) w)
 have N1 := hide (scn_any (h.below hA))
 have HBA := hide hA
 rw [hk] at N1
 obtain ⟨s1, hs1⟩ : ∃ s, (nx l (0, 0)).2 = s := ⟨_, rfl⟩
 rw [hs1] at N1
 rw [hs1]
 obtain ⟨vo, hvo⟩ : ∃ x, (rdV l s1).1 = x := ⟨_, rfl⟩
 rw [hvo]
 have HVO := hide hvo
 clear h hl hA hk hs1 hvo
 go_enter Tryz.func68, Tryz.ntmps68
 go_wp2_with fail
 refine N1.out.mono ?_
 rintro e w1 ⟨rfl, hs1, hg1⟩
 have hr1 := HR.out.grown hg1 (by have := HL.out.1; intro e; injection e with e; omega)
 go_upto_region 2 with fail
 have hB := (Below.refl w1.heap.size w1).alloc (Nat.le_refl _) (.cells #[.int .i64 5, .int .i64 0, .int .i64 0, .int .i64 0, .slice none 0 0, .slice none 0 0] 25)
 obtain ⟨X, hX⟩ : ∃ X, w1.alloc (.cells #[.int .i64 5, .int .i64 0, .int .i64 0, .int .i64 0, .slice none 0 0, .slice none 0 0] 25) = X := ⟨_, rfl⟩
 have hb := RowC.new (k := 5) (se := 0) (sq := 0) (a := 0) (vs := .slice none 0 0) (vv := .slice none 0 0) w1
 rw [hX] at hB hb
 have hrb : w.heap.size < w1.heap.size := hr1.lt
 obtain ⟨b, hbe⟩ : ∃ b, w1.heap.size = b := ⟨_, rfl⟩
 obtain ⟨r, hre⟩ : ∃ r, w.heap.size = r := ⟨_, rfl⟩
 rw [hbe] at hb hrb
 rw [hre] at hr1 hrb
 have HRB : Hid (g < r ∧ r < b ∧ w.heap.size = r) := hide ⟨by have := HL.out.1; omega, hrb, hre⟩
 have HX := hide (And.intro (hs1.below hB) (And.intro (hr1.below hB) hb))
 have HGX : Hid (w.heap.size ≤ X.heap.size) := hide (by have h1 := HBA.out.size; have h2 := hg1.size; have h3 := hB.size; omega)
 obtain ⟨x0, x1, x2, x3, x4, x5⟩ := hb.box
 have HFX := hide hb
 clear hs1 hg1 hr1 hB hb hrb N1
 rw [hX, hbe, hre]
 clear hX hbe hre
 have N2 := hide (mvoters_any HX.out.1)
 rw [HVO.out] at N2
 go_wp2_with fail
 refine N2.out.mono ?_
 rintro e w2 ⟨pv, nv, cv, rfl, hov, hs2, hg2⟩
 have hr2 := HX.out.2.1.grown hg2 (by have := HRB.out; intro e; injection e with e; omega)
 have hb2 := HX.out.2.2.grown hg2 (by have := HRB.out; intro e; injection e with e; omega)
 have HG2 : Hid (w.heap.size ≤ w2.heap.size) := hide (Nat.le_trans HGX.out hg2.size)
 have hbx : b < X.heap.size := HX.out.2.2.lt
 have f5 := hb2.fr 5
 obtain ⟨x0', x1', x2', x3', x4', x5'⟩ := hb2.box
 obtain ⟨Y, hY⟩ : ∃ Y, w2.setCell ⟨b, 5, none⟩ (.slice pv nv cv) = Y := ⟨_, rfl⟩
 have hcY : Chg w2 Y fun k => k = b := by rw [← hY]; exact chg_set _ _ _ _
 have hbY : RowC Y b 5 0 0 0 (.slice none 0 0) (.slice pv nv cv) := by rw [← hY]; exact hb2.set5 _
 have hrY := hr2.chg hcY (by have := HRB.out; omega)
 have hsY := hs2.later (chg_belowB (B := w.heap.size) hcY (fun k e => by have := HRB.out; omega) HG2.out) HL.out.1 HL.out.2.1 HL.out.2.2.1
 have HOV := hide (hov.chgB hcY (fun k hk e => by have := (hov.lt k hk).1; omega))
 have HY := hide (And.intro hsY (And.intro hrY hbY))
 have HGY : Hid (w.heap.size ≤ Y.heap.size) := hide (Nat.le_trans HG2.out hcY.size)
 have HBX : Hid (b < X.heap.size) := hide hbx
 clear hs2 hg2 hr2 hb2 hcY hbY hrY hsY N2 x0 x1 x2 x3 x4 x5 x0' x1' x2' x3' x4' hov hbx
 go_upto_region 11 with fail
 clear hY
 have HSZ : Hid (w.heap.size ≤ (Y).heap.size) := hide HGY.out
 have HWr := hide (HY.out.2.1)
 obtain ⟨k0, k1, k2, k3, k4, k5⟩ := (HY.out.2.2).box
 obtain ⟨j0, j1, j2, j3, j4, j5⟩ := HWr.out.box
 have fr0 := HWr.out.fr 0
 have fr1 := HWr.out.fr 1
 have fr2 := HWr.out.fr 2
 have fr3 := HWr.out.fr 3
 have fr4 := HWr.out.fr 4
 have fr5 := HWr.out.fr 5
 go_wp2_with fail
 have hst := setC_row HWr.out 5 0 0 0 (.slice none 0 0) (.slice pv nv cv)
 have hcs := setC_chg Y r 5 0 0 0 (.slice none 0 0) (.slice pv nv cv)
 unfold setC at hst hcs
 have HST := hide hst
 have hcb := chg_belowB (B := w.heap.size) hcs (fun k e => by have := HRB.out.2.2; omega) HSZ.out
 refine bodyPost_ret (v := .agg #[.int .i64 5, .int .i64 0, .int .i64 0, .int .i64 0, .slice none 0 0, .slice pv nv cv]) (by
   generalize (((((World.setCell Y ⟨r, 0, none⟩ (.int .i64 5)).setCell ⟨r, 1, none⟩ (.int .i64 0)).setCell ⟨r, 2, none⟩ (.int .i64 0)).setCell ⟨r, 3, none⟩ (.int .i64 0)).setCell ⟨r, 4, none⟩ (.slice none 0 0)).setCell ⟨r, 5, none⟩ (.slice pv nv cv) = W9 at hst ⊢
   obtain ⟨m0, m1, m2, m3, m4, m5⟩ := hst.box
   simp [results, Tryz.results68, go_sem, m0, m1, m2, m3, m4, m5]) rfl ?_
 exact ⟨_, _, _, _, _, _, rfl, OwnS.nil _ _, (HOV.out.chgB hcs (fun k hk e => by have h1 := (HOV.out.lt k hk).1; have h2 := HRB.out; have h3 := HBX.out; omega)).mono HGX.out, ((HY.out.1).later hcb HL.out.1 HL.out.2.1 HL.out.2.2.1).b⟩
set_option maxRecDepth 200000 in
set_option maxHeartbeats 8000000 in
theorem read2_any {w0 w : World} {g : Nat} {p : Option Addr} {n c : Nat} {l : List UInt8} (h : ScB w0 g (.slice p n c) l w (0, 0)) (hl : l.length ≤ 1100000) (hk : (nx l (0, 0)).1 = 2) : Calls Tryz.prog 68 #[.pointer (some ⟨g, 0, none⟩)] w (ReadP w0 w ⟨2, ((nx l (nx l (0, 0)).2).1 : Nat), ((nx l (nx l (nx l (0, 0)).2).2).1 : Nat), 0, (getP (tx l (l.length - (nx l (nx l (nx l (0, 0)).2).2).2.1) (nx l (nx l (nx l (0, 0)).2).2).2).1).1, []⟩) := by
 have hA := (Below.refl w.heap.size w).alloc (Nat.le_refl _) (.cells #[.int .i64 0, .int .i64 0, .int .i64 0, .int .i64 0, .slice none 0 0, .slice none 0 0] 25)
 have HL := hide (And.intro h.sc.lt (And.intro h.by_.ltM (And.intro h.b.size hl)))
 have HR := hide (RowC.new (k := 0) (se := 0) (sq := 0) (a := 0) (vs := .slice none 0 0) (vv := .slice none 0 0) w)
 have N1 := hide (scn_any (h.below hA))
 have HBA := hide hA
 rw [hk] at N1
 obtain ⟨s1, hs1⟩ : ∃ s, (nx l (0, 0)).2 = s := ⟨_, rfl⟩
 rw [hs1] at N1
 rw [hs1]
 obtain ⟨x, hx⟩ : ∃ x, (nx l s1).1 = x := ⟨_, rfl⟩
 obtain ⟨s2, hs2⟩ : ∃ s, (nx l s1).2 = s := ⟨_, rfl⟩
 rw [hx, hs2]
 obtain ⟨y, hy⟩ : ∃ x, (nx l s2).1 = x := ⟨_, rfl⟩
 obtain ⟨s3, hs3⟩ : ∃ s, (nx l s2).2 = s := ⟨_, rfl⟩
 rw [hy, hs3]
 obtain ⟨T, hT⟩ : ∃ T, (tx l (l.length - s3.1) s3).1 = T := ⟨_, rfl⟩
 rw [hT]
 obtain ⟨sp, E9, hG⟩ : ∃ sp E, getP T = (sp, E) := ⟨_, _, rfl⟩
 have hTl : T.length ≤ l.length := by rw [← hT]; exact tx_lenL
 rw [hG]
 dsimp only
 have HXS := hide (And.intro hx (And.intro hs2 (And.intro hy (And.intro hs3 (And.intro hT (And.intro hG hTl))))))
 clear h hl hA hk hs1 hx hs2 hy hs3 hT hG hTl
 go_enter Tryz.func68, Tryz.ntmps68
 go_wp2_with fail
 refine N1.out.mono ?_
 rintro e w1 ⟨rfl, hs1, hg1⟩
 have hr1 := HR.out.grown hg1 (by have := HL.out.1; intro e; injection e with e; omega)
 go_upto_region 2 with fail
 have hB := (Below.refl w1.heap.size w1).alloc (Nat.le_refl _) (.cells #[.int .i64 2, .int .i64 0, .int .i64 0, .int .i64 0, .slice none 0 0, .slice none 0 0] 25)
 obtain ⟨X, hX⟩ : ∃ X, w1.alloc (.cells #[.int .i64 2, .int .i64 0, .int .i64 0, .int .i64 0, .slice none 0 0, .slice none 0 0] 25) = X := ⟨_, rfl⟩
 have hb := RowC.new (k := 2) (se := 0) (sq := 0) (a := 0) (vs := .slice none 0 0) (vv := .slice none 0 0) w1
 rw [hX] at hB hb
 have hrb : w.heap.size < w1.heap.size := hr1.lt
 obtain ⟨b, hbe⟩ : ∃ b, w1.heap.size = b := ⟨_, rfl⟩
 obtain ⟨r, hre⟩ : ∃ r, w.heap.size = r := ⟨_, rfl⟩
 rw [hbe] at hb hrb
 rw [hre] at hr1 hrb
 have HRB : Hid (g < r ∧ r < b ∧ w.heap.size = r) := hide ⟨by have := HL.out.1; omega, hrb, hre⟩
 have HX := hide (And.intro (hs1.below hB) (And.intro (hr1.below hB) hb))
 have HGX : Hid (w.heap.size ≤ X.heap.size) := hide (by have h1 := HBA.out.size; have h2 := hg1.size; have h3 := hB.size; omega)
 obtain ⟨x0, x1, x2, x3, x4, x5⟩ := hb.box
 have HFX := hide hb
 clear hs1 hg1 hr1 hB hb hrb N1
 rw [hX, hbe, hre]
 clear hX hbe hre
 have N2 := hide (scn_any HX.out.1)
 rw [HXS.out.1, HXS.out.2.1] at N2
 go_wp2_with fail
 refine N2.out.mono ?_
 rintro e w2 ⟨rfl, hs2, hg2⟩
 have HX2 := hide (And.intro hs2 (And.intro (HX.out.2.1.grown hg2 (by have := HRB.out; intro e; injection e with e; omega)) (HX.out.2.2.grown hg2 (by have := HRB.out; intro e; injection e with e; omega))))
 have HG2 : Hid (w.heap.size ≤ w2.heap.size) := hide (Nat.le_trans HGX.out hg2.size)
 have HBX : Hid (b < X.heap.size) := hide HX.out.2.2.lt
 have HXW : Hid (X.heap.size ≤ w2.heap.size) := hide hg2.size
 have N3 := hide (scn_any HX2.out.1)
 rw [HXS.out.2.2.1, HXS.out.2.2.2.1] at N3
 clear hs2 hg2 N2
 go_wp2_with fail
 refine N3.out.mono ?_
 rintro e w3 ⟨rfl, hs3, hg3⟩
 have hr3 := HX2.out.2.1.grown hg3 (by have := HRB.out; intro e; injection e with e; omega)
 have hb3 := HX2.out.2.2.grown hg3 (by have := HRB.out; intro e; injection e with e; omega)
 have HG3 : Hid (w.heap.size ≤ w3.heap.size) := hide (Nat.le_trans HG2.out hg3.size)
 have HXW3 : Hid (X.heap.size ≤ w3.heap.size) := hide (Nat.le_trans HXW.out hg3.size)
 have f1 := hb3.fr 1
 have f2 := hb3.fr 2
 obtain ⟨x0', x1', x2', x3', x4', x5'⟩ := hb3.box
 obtain ⟨Y, hY⟩ : ∃ Y, (w3.setCell ⟨b, 1, none⟩ (.int .i64 (x : Nat))).setCell ⟨b, 2, none⟩ (.int .i64 (y : Nat)) = Y := ⟨_, rfl⟩
 have hcY : Chg w3 Y fun k => k = b := by rw [← hY]; exact chgS (chg_set _ _ _ _) (chg_set _ _ _ _)
 have hbY : RowC Y b 2 (x : Nat) (y : Nat) 0 (.slice none 0 0) (.slice none 0 0) := by rw [← hY]; exact (hb3.set1 _).set2 _
 have hrY := hr3.chg hcY (by have := HRB.out; omega)
 have hsY := hs3.later (chg_belowB (B := w.heap.size) hcY (fun k e => by have := HRB.out; omega) HG3.out) HL.out.1 HL.out.2.1 HL.out.2.2.1
 have HY := hide (And.intro hsY (And.intro hrY hbY))
 have HGY : Hid (w.heap.size ≤ Y.heap.size) := hide (Nat.le_trans HG3.out hcY.size)
 have HXY : Hid (X.heap.size ≤ Y.heap.size) := hide (Nat.le_trans HXW3.out hcY.size)
 clear hs3 hg3 hr3 hb3 hcY hbY hrY hsY N3 x0 x1 x2 x3 x4 x5 x0' x3' x4' x5'
 go_upto_region 5 with fail
 clear hY
 have TX := hide (mtext_any HY.out.1 HL.out.2.2.2)
 rw [HXS.out.2.2.2.2.1] at TX
 go_wp2_with fail
 refine TX.out.mono ?_
 rintro e w4 ⟨p4, n4, c4, rfl, ho4, hs4, hg4⟩
 have HX4 := hide (And.intro hs4 (And.intro (HY.out.2.1.grown hg4 (by have := HRB.out; intro e; injection e with e; omega)) (HY.out.2.2.grown hg4 (by have := HRB.out; intro e; injection e with e; omega))))
 have HG4 : Hid (w.heap.size ≤ w4.heap.size ∧ X.heap.size ≤ w4.heap.size) := hide ⟨Nat.le_trans HGY.out hg4.size, Nat.le_trans HXY.out hg4.size⟩
 have GT := hide (get_any ho4.by_ (by have := HXS.out.2.2.2.2.2.2; have := HL.out.2.2.2; omega) HXS.out.2.2.2.2.2.1)
 clear ho4 hs4 hg4 TX
 go_wp2_with fail
 refine GT.out.mono ?_
 rintro e w5 ⟨v5, rfl, ho5, hb5⟩
 obtain ⟨pv, nv, cv, rfl⟩ := ho5.sps.sl
 have hr5 := HX4.out.2.1.below hb5
 have hbb := HX4.out.2.2.below hb5
 have HG5 : Hid (w.heap.size ≤ w5.heap.size) := hide (Nat.le_trans HG4.out.1 hb5.size)
 have f4 := hbb.fr 4
 obtain ⟨x0', x1', x2', x3', x4', x5'⟩ := hbb.box
 obtain ⟨V, hV⟩ : ∃ Y, w5.setCell ⟨b, 4, none⟩ (.slice pv nv cv) = Y := ⟨_, rfl⟩
 have hcV : Chg w5 V fun k => k = b := by rw [← hV]; exact chg_set _ _ _ _
 have hbV : RowC V b 2 (x : Nat) (y : Nat) 0 (.slice pv nv cv) (.slice none 0 0) := by rw [← hV]; exact hbb.set4 _
 have hrV := hr5.chg hcV (by have := HRB.out; omega)
 have hsV := (HX4.out.1.below hb5).later (chg_belowB (B := w.heap.size) hcV (fun k e => by have := HRB.out; omega) HG5.out) HL.out.1 HL.out.2.1 HL.out.2.2.1
 have HOV := hide ((ho5.mono HG4.out.2).chgB hcV (fun k hk e => by have h1 := (ho5.lt k hk).1; have h2 := HBX.out; have h3 := HG4.out.2; omega))
 have HV := hide (And.intro hsV (And.intro hrV hbV))
 have HGV : Hid (w.heap.size ≤ V.heap.size) := hide (Nat.le_trans HG5.out hcV.size)
 clear ho5 hb5 hr5 hbb hcV hbV hrV hsV GT x0' x1' x2' x3' x5'
 go_upto_region 11 with fail
 clear hV
 have HSZ : Hid (w.heap.size ≤ (V).heap.size) := hide HGV.out
 have HWr := hide (HV.out.2.1)
 obtain ⟨k0, k1, k2, k3, k4, k5⟩ := (HV.out.2.2).box
 obtain ⟨j0, j1, j2, j3, j4, j5⟩ := HWr.out.box
 have fr0 := HWr.out.fr 0
 have fr1 := HWr.out.fr 1
 have fr2 := HWr.out.fr 2
 have fr3 := HWr.out.fr 3
 have fr4 := HWr.out.fr 4
 have fr5 := HWr.out.fr 5
 go_wp2_with fail
 have hst := setC_row HWr.out 2 (x : Nat) (y : Nat) 0 (.slice pv nv cv) (.slice none 0 0)
 have hcs := setC_chg V r 2 (x : Nat) (y : Nat) 0 (.slice pv nv cv) (.slice none 0 0)
 unfold setC at hst hcs
 have HST := hide hst
 have hcb := chg_belowB (B := w.heap.size) hcs (fun k e => by have := HRB.out.2.2; omega) HSZ.out
 refine bodyPost_ret (v := .agg #[.int .i64 2, .int .i64 (x : Nat), .int .i64 (y : Nat), .int .i64 0, .slice pv nv cv, .slice none 0 0]) (by
   generalize (((((World.setCell V ⟨r, 0, none⟩ (.int .i64 2)).setCell ⟨r, 1, none⟩ (.int .i64 (x : Nat))).setCell ⟨r, 2, none⟩ (.int .i64 (y : Nat))).setCell ⟨r, 3, none⟩ (.int .i64 0)).setCell ⟨r, 4, none⟩ (.slice pv nv cv)).setCell ⟨r, 5, none⟩ (.slice none 0 0) = W9 at hst ⊢
   obtain ⟨m0, m1, m2, m3, m4, m5⟩ := hst.box
   simp [results, Tryz.results68, go_sem, m0, m1, m2, m3, m4, m5]) rfl ?_
 exact ⟨_, _, _, _, _, _, rfl, (HOV.out.chgB hcs (fun k hk e => by have h1 := (HOV.out.lt k hk).1; have h2 := HRB.out; have h3 := HBX.out; omega)).mono HGX.out, OwnN.nil _ _, ((HV.out.1).later hcb HL.out.1 HL.out.2.1 HL.out.2.2.1).b⟩
theorem mread_any {w0 w : World} {g : Nat} {p : Option Addr} {n c : Nat} {l : List UInt8} (h : ScB w0 g (.slice p n c) l w (0, 0)) (hl : l.length ≤ 1100000) : Calls Tryz.prog 68 #[.pointer (some ⟨g, 0, none⟩)] w (ReadP w0 w (rdC l)) := by
 unfold rdC
 dsimp only
 by_cases h2 : (nx l (0, 0)).1 = 2
 ·rw [if_pos h2, h2]
  exact read2_any h hl h2
 by_cases h3 : (nx l (0, 0)).1 = 3
 ·rw [if_neg h2, if_pos h3, h3]
  exact read3_any h hl h3
 by_cases h4 : (nx l (0, 0)).1 = 4
 ·rw [if_neg h2, if_neg h3, if_pos h4, h4]
  exact read4_any h hl h4
 by_cases h5 : (nx l (0, 0)).1 = 5
 ·rw [if_neg h2, if_neg h3, if_neg h4, if_pos h5, h5]
  exact read5_any h hl h5
 rw [if_neg h2, if_neg h3, if_neg h4, if_neg h5]
 exact readO_any h hl rfl h2 h3 h4 h5
end Go.Proofs.YtionbmlicmibgaaGreatDoor
