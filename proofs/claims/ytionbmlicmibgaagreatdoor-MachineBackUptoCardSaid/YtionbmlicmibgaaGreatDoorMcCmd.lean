import Derived.Test.YtionbmlicmibgaaGreatDoorMcMem
import Derived.Deep.RegionHeld3
namespace Go.Proofs.YtionbmlicmibgaaGreatDoor
set_option linter.unusedVariables false
set_option linter.unusedSimpArgs false
open Go.RowKit
def rpN (n : Cn) : Rp := ⟨0, 0, 0, (n.add : Nat), (n.same : Nat), (n.other : Nat), (n.cyc : Nat), (n.full : Nat)⟩
noncomputable def ingM (m : Mp) (c : Cm) : Rp × Int × Mp :=
 if (askT m.L c.se c.sq).2.2 ≠ 0 ∨ (askT m.L c.se c.sq).2.1 = true then ((askT m.L c.se c.sq).1, (askT m.L c.se c.sq).2.2, m)
 else (rpN (ingC m.S c.sp), (keepT m.L c.se c.sq m.ix (rpN (ingC m.S c.sp))).1, { m with S := ingS m.S c.sp, L := (keepT m.L c.se c.sq m.ix (rpN (ingC m.S c.sp))).2 })
noncomputable def cmdM (m : Mp) : Option Cm → Rp × Int × Mp
 | none => (rp0, 90, m)
 | some c => if c.k = 1 then (⟨0, m.ix, 0, 0, 0, 0, 0, 0⟩, (openT m.L m.ix).1, { m with L := (openT m.L m.ix).2 })
  else if c.k = 2 then ingM m c
  else if c.k = 3 then (⟨0, 0, (m.L.length : Int) - (expT m.L c.a).length, 0, 0, 0, 0, 0⟩, 0, { m with L := expT m.L c.a })
  else if c.k = 4 then (⟨0, 0, (m.S.length : Int) - (retS m.S c.a).length, 0, 0, 0, 0, 0⟩, 0, { m with S := retS m.S c.a })
  else if c.k = 5 then (rp0, 0, { m with vo := c.vo }) else (rp0, 0, m)
def RowR (w : World) (b : Nat) (r : Rp) : Prop := w.heap[b]? = some (.cells #[.int .i64 r.er, .int .i64 r.rs, .int .i64 r.gn, .int .i64 r.ad, .int .i64 r.sa, .int .i64 r.ot, .int .i64 r.cy, .int .i64 r.fu] 66 (0, 0))
section
variable {w w' : World} {b : Nat} {r : Rp}
theorem RowR.new (w : World) (r : Rp) : RowR (w.alloc (.cells #[.int .i64 r.er, .int .i64 r.rs, .int .i64 r.gn, .int .i64 r.ad, .int .i64 r.sa, .int .i64 r.ot, .int .i64 r.cy, .int .i64 r.fu] 66)) w.heap.size r := heap_alloc_new _ _
theorem RowR.z (h : RowR w b r) : w.cell? ⟨b, 0, none⟩ = some (.int .i64 r.er) ∧ w.cell? ⟨b, 1, none⟩ = some (.int .i64 r.rs) ∧ w.cell? ⟨b, 2, none⟩ = some (.int .i64 r.gn) ∧ w.cell? ⟨b, 3, none⟩ = some (.int .i64 r.ad) ∧ w.cell? ⟨b, 4, none⟩ = some (.int .i64 r.sa) ∧ w.cell? ⟨b, 5, none⟩ = some (.int .i64 r.ot) ∧ w.cell? ⟨b, 6, none⟩ = some (.int .i64 r.cy) ∧ w.cell? ⟨b, 7, none⟩ = some (.int .i64 r.fu) :=
 ⟨cell_of_row w b 0 _ 66 (0, 0) h, cell_of_row w b 1 _ 66 (0, 0) h, cell_of_row w b 2 _ 66 (0, 0) h, cell_of_row w b 3 _ 66 (0, 0) h, cell_of_row w b 4 _ 66 (0, 0) h, cell_of_row w b 5 _ 66 (0, 0) h, cell_of_row w b 6 _ 66 (0, 0) h, cell_of_row w b 7 _ 66 (0, 0) h⟩
theorem RowR.fr (h : RowR w b r) (i : Nat) : w.frozen? ⟨b, i, none⟩ = false := frozen_of_row w b i _ 66 h
theorem RowR.f (h : RowR w b r) : w.frozen? ⟨b, 0, none⟩ = false ∧ w.frozen? ⟨b, 1, none⟩ = false ∧ w.frozen? ⟨b, 2, none⟩ = false ∧ w.frozen? ⟨b, 3, none⟩ = false ∧ w.frozen? ⟨b, 4, none⟩ = false ∧ w.frozen? ⟨b, 5, none⟩ = false ∧ w.frozen? ⟨b, 6, none⟩ = false ∧ w.frozen? ⟨b, 7, none⟩ = false := ⟨h.fr 0, h.fr 1, h.fr 2, h.fr 3, h.fr 4, h.fr 5, h.fr 6, h.fr 7⟩
theorem RowR.lt (h : RowR w b r) : b < w.heap.size := lt_of_cell h.z.1
theorem RowR.below (h : RowR w b r) (hb : Below w.heap.size w w') : RowR w' b r := (hb.block b h.lt).trans h
theorem RowR.chg {S : Nat → Prop} (h : RowR w b r) (hc : Chg w w' S) (hne : ¬ S b) : RowR w' b r := (hc.block b h.lt hne).trans h
end
def setR (w : World) (b : Nat) (r : Rp) : World := (((((((w.setCell ⟨b, 0, none⟩ (.int .i64 r.er)).setCell ⟨b, 1, none⟩ (.int .i64 r.rs)).setCell ⟨b, 2, none⟩ (.int .i64 r.gn)).setCell ⟨b, 3, none⟩ (.int .i64 r.ad)).setCell ⟨b, 4, none⟩ (.int .i64 r.sa)).setCell ⟨b, 5, none⟩ (.int .i64 r.ot)).setCell ⟨b, 6, none⟩ (.int .i64 r.cy)).setCell ⟨b, 7, none⟩ (.int .i64 r.fu)
def Row8 (w : World) (b : Nat) (v0 v1 v2 v3 v4 v5 v6 v7 : Value) : Prop := w.heap[b]? = some (.cells #[v0, v1, v2, v3, v4, v5, v6, v7] 66 (0, 0))
section
variable {w : World} {b : Nat} {v0 v1 v2 v3 v4 v5 v6 v7 : Value}
theorem Row8.s0 (h : Row8 w b v0 v1 v2 v3 v4 v5 v6 v7) (x : Value) : Row8 (w.setCell ⟨b, 0, none⟩ x) b x v1 v2 v3 v4 v5 v6 v7 := by unfold Row8 at *; rw [heap_setCell_same w b 0 _ 66 _ h]; rfl
theorem Row8.s1 (h : Row8 w b v0 v1 v2 v3 v4 v5 v6 v7) (x : Value) : Row8 (w.setCell ⟨b, 1, none⟩ x) b v0 x v2 v3 v4 v5 v6 v7 := by unfold Row8 at *; rw [heap_setCell_same w b 1 _ 66 _ h]; rfl
theorem Row8.s2 (h : Row8 w b v0 v1 v2 v3 v4 v5 v6 v7) (x : Value) : Row8 (w.setCell ⟨b, 2, none⟩ x) b v0 v1 x v3 v4 v5 v6 v7 := by unfold Row8 at *; rw [heap_setCell_same w b 2 _ 66 _ h]; rfl
theorem Row8.s3 (h : Row8 w b v0 v1 v2 v3 v4 v5 v6 v7) (x : Value) : Row8 (w.setCell ⟨b, 3, none⟩ x) b v0 v1 v2 x v4 v5 v6 v7 := by unfold Row8 at *; rw [heap_setCell_same w b 3 _ 66 _ h]; rfl
theorem Row8.s4 (h : Row8 w b v0 v1 v2 v3 v4 v5 v6 v7) (x : Value) : Row8 (w.setCell ⟨b, 4, none⟩ x) b v0 v1 v2 v3 x v5 v6 v7 := by unfold Row8 at *; rw [heap_setCell_same w b 4 _ 66 _ h]; rfl
theorem Row8.s5 (h : Row8 w b v0 v1 v2 v3 v4 v5 v6 v7) (x : Value) : Row8 (w.setCell ⟨b, 5, none⟩ x) b v0 v1 v2 v3 v4 x v6 v7 := by unfold Row8 at *; rw [heap_setCell_same w b 5 _ 66 _ h]; rfl
theorem Row8.s6 (h : Row8 w b v0 v1 v2 v3 v4 v5 v6 v7) (x : Value) : Row8 (w.setCell ⟨b, 6, none⟩ x) b v0 v1 v2 v3 v4 v5 x v7 := by unfold Row8 at *; rw [heap_setCell_same w b 6 _ 66 _ h]; rfl
theorem Row8.s7 (h : Row8 w b v0 v1 v2 v3 v4 v5 v6 v7) (x : Value) : Row8 (w.setCell ⟨b, 7, none⟩ x) b v0 v1 v2 v3 v4 v5 v6 x := by unfold Row8 at *; rw [heap_setCell_same w b 7 _ 66 _ h]; rfl
end
theorem setR_row {w : World} {b : Nat} {r : Rp} (h : RowR w b r) (s : Rp) : RowR (setR w b s) b s :=
 ((((((((show Row8 w b _ _ _ _ _ _ _ _ from h).s0 (.int .i64 s.er)).s1 (.int .i64 s.rs)).s2 (.int .i64 s.gn)).s3 (.int .i64 s.ad)).s4 (.int .i64 s.sa)).s5 (.int .i64 s.ot)).s6 (.int .i64 s.cy)).s7 (.int .i64 s.fu)
theorem setR_chg (w : World) (b : Nat) (s : Rp) : Chg w (setR w b s) fun k => k = b :=
 chgS (chgS (chgS (chgS (chgS (chgS (chgS (chg_set _ _ _ _) (chg_set _ _ _ _)) (chg_set _ _ _ _)) (chg_set _ _ _ _)) (chg_set _ _ _ _)) (chg_set _ _ _ _)) (chg_set _ _ _ _)) (chg_set _ _ _ _)
def CmdP (w : World) (P : Pm) (x : Rp × Int × Mp) (e : Ending) (w' : World) : Prop := e = .returned (.tuple #[rpV x.1, errV x.2.1]) ∧ ∃ P', McTo w w' P P' x.2.2
theorem McTo.box {w w1 w2 : World} {P P' : Pm} {m' : Mp} {r : Nat} (hE : ErrT w) (h : McTo w w1 P P' m') (hc : Chg w1 w2 fun k => k = r) (hr : w.heap.size ≤ r) (hn : ¬ McS P' r) : McTo w w2 P P' m' :=
 ⟨h.is.chg hc (fun k hk e => hn (e ▸ hk)) (fun e => by have := hE.pos; omega), h.gi, h.chg.trans hc (fun k e => .inr (by omega)), h.new⟩
theorem keep8 {U : World} {r g i : Nat} {u : Value} (h : U.cell? ⟨g, i, none⟩ = some u) (hg : g ≠ r) (v0 v1 v2 v3 v4 v5 v6 v7 : Value) : ((((((((U.setCell ⟨r, 0, none⟩ v0).setCell ⟨r, 1, none⟩ v1).setCell ⟨r, 2, none⟩ v2).setCell ⟨r, 3, none⟩ v3).setCell ⟨r, 4, none⟩ v4).setCell ⟨r, 5, none⟩ v5).setCell ⟨r, 6, none⟩ v6).setCell ⟨r, 7, none⟩ v7).cell? ⟨g, i, none⟩ = some u :=
 (chgS (chgS (chgS (chgS (chgS (chgS (chgS (chg_set U r 0 v0) (chg_set _ _ _ _)) (chg_set _ _ _ _)) (chg_set _ _ _ _)) (chg_set _ _ _ _)) (chg_set _ _ _ _)) (chg_set _ _ _ _)) (chg_set _ _ _ _)).cell h hg
theorem McIs.tab {w w' : World} {P : Pm} {m : Mp} (h : McIs w P m) {L' : List St} (ht : TbIs w' P.gt P.bt L') (hc : Chg w w' fun k => k = P.bt) : McTo w w' P P { m with L := L' } :=
 ⟨⟨(hc.block _ h.row.lt h.a2.2).trans h.row, h.so.chg hc (fun k hk => (h.a1 k hk).2.2), h.pl, ht, h.vo.chgS hc (fun k hk e => (h.a3 k hk).2.2.1 e), ⟨h.ok.i0, h.ok.i1, h.ok.t0, h.ok.t1, h.ok.vo⟩, h.er.chg hc (fun e => h.nz P.bt (.inr (.inr (.inl rfl))) e.symm), h.a1, h.a2, h.a3, h.nz⟩, rfl, hc.mono (fun k e => .inr (.inl e)), fun k hk => .inl hk⟩
theorem McIs.sto {w w' : World} {P : Pm} {m : Mp} (h : McIs w P m) {R' : List Tr} {S' : List Pl} (ht : SoTo w w' P.gs P.bm P.R R' S') : McTo w w' P { P with R := R' } { m with S := S' } := by
 have hlt := h.lt
 have hnew : ∀ k, SoS P.gs P.bm R' k → SoS P.gs P.bm P.R k ∨ w.heap.size ≤ k := ht.new
 have hM : ∀ k, SoM P.bm P.R k → SoS P.gs P.bm P.R k := fun k hk => hk.sub
 refine ⟨⟨(ht.chg.block _ h.row.lt (fun e => (h.a1 _ (hM _ e)).1 rfl)).trans h.row, ht.is, ht.pl, h.tb.chg ht.chg (fun e => (h.a1 _ (hM _ e)).2.1 rfl) (fun e => (h.a1 _ (hM _ e)).2.2 rfl), h.vo.chgS ht.chg (fun k hk e => (h.a3 k hk).2.2.2 (hM _ e)), ⟨h.ok.i0, h.ok.i1, h.ok.t0, h.ok.t1, h.ok.vo⟩, h.er.chg ht.chg (fun e => h.nz 0 (.inr (.inr (.inr (.inl (hM _ e))))) rfl), fun k hk => ?_, h.a2, fun k hk => ?_, fun k hk => ?_⟩, rfl, ht.chg.mono (fun k e => .inr (.inr e)), fun k hk => ?_⟩
 ·rcases hnew k hk with e | e
  ·exact h.a1 k e
  ·have h1 := hlt P.gi (.inl rfl)
   have h2 := hlt P.gt (.inr (.inl rfl))
   have h3 := hlt P.bt (.inr (.inr (.inl rfl)))
   exact ⟨by show k ≠ P.gi; omega, by show k ≠ P.gt; omega, by show k ≠ P.bt; omega⟩
 ·refine ⟨(h.a3 k hk).1, (h.a3 k hk).2.1, (h.a3 k hk).2.2.1, fun e => ?_⟩
  rcases hnew k e with e | e
  ·exact (h.a3 k hk).2.2.2 e
  ·have := hlt k (.inr (.inr (.inr (.inr hk))))
   omega
 ·rcases hk with e | e | e | e | e
  ·exact h.nz k (.inl e)
  ·exact h.nz k (.inr (.inl e))
  ·exact h.nz k (.inr (.inr (.inl e)))
  ·rcases hnew k e with e | e
   ·exact h.nz k (.inr (.inr (.inr (.inl e))))
   ·have := h.er.pos; omega
  ·exact h.nz k (.inr (.inr (.inr (.inr e))))
 ·rcases hk with e | e | e | e | e
  ·exact .inl (.inl e)
  ·exact .inl (.inr (.inl e))
  ·exact .inl (.inr (.inr (.inl e)))
  ·rcases hnew k e with e | e
   ·exact .inl (.inr (.inr (.inr (.inl e))))
   ·exact .inr e
  ·exact .inl (.inr (.inr (.inr (.inr e))))
theorem McIs.vot {w w' : World} {P : Pm} {m : Mp} (h : McIs w P m) {u : Value} {l : List Int} {r : Nat} (hu : OwnN (r + 1) w u l) (hr : ∀ k, McS P k → k < r) (hl : okR l = true) (hc : Chg w w' fun k => k = P.gi) (hrow : RowM w' { P with vv := u } { m with vo := l }) : McIs w' { P with vv := u } { m with vo := l } := by
 have hgi := hr P.gi (.inl rfl)
 have hgt := hr P.gt (.inr (.inl rfl))
 have hbt := hr P.bt (.inr (.inr (.inl rfl)))
 have hu0 : ∀ k, u.ownBlock = some k → r < k := fun k hk => (hu.lt k hk).1
 exact ⟨hrow, h.so.chg hc (fun k hk => (h.a1 k hk).1), h.pl, h.tb.chg hc (fun e => h.a2.1 e.symm) (fun e => h.a2.2 e.symm), (hu.mono (Nat.zero_le _)).chgS hc (fun k hk (e : k = P.gi) => by have := hu0 k hk; omega), ⟨h.ok.i0, h.ok.i1, h.ok.t0, h.ok.t1, hl⟩, h.er.chg hc (fun (e : 0 = P.gi) => h.nz P.gi (.inl rfl) e.symm), h.a1, h.a2, (fun k hk => ⟨by have := hu0 k hk; show k ≠ P.gi; omega, by have := hu0 k hk; show k ≠ P.gt; omega, by have := hu0 k hk; show k ≠ P.bt; omega, fun e => by have := hu0 k hk; have := hr k (.inr (.inr (.inr (.inl e)))); omega⟩), fun k hk => by
  rcases hk with e | e | e | e | e
  ·exact h.nz k (.inl e)
  ·exact h.nz k (.inr (.inl e))
  ·exact h.nz k (.inr (.inr (.inl e)))
  ·exact h.nz k (.inr (.inr (.inr (.inl e))))
  ·have := hu0 k e; omega⟩
theorem McTo.from {w v w' : World} {P P' : Pm} {m' : Mp} (hb : Below w.heap.size w v) (h : McTo v w' P P' m') : McTo w w' P P' m' := ⟨h.is, h.gi, (Chg.of_below hb (McC P)).trans h.chg (fun k e => .inl e), fun k hk => (h.new k hk).imp id (fun e => Nat.le_trans hb.size e)⟩
theorem McIs.toB {w w' : World} {P : Pm} {m : Mp} (h : McIs w P m) (hb : Below w.heap.size w w') : McTo w w' P P m := ⟨h.below hb, rfl, Chg.of_below hb _, fun k hk => .inl hk⟩
set_option maxRecDepth 200000 in
set_option maxHeartbeats 8000000 in
theorem cmd0_any {w : World} {P : Pm} {m : Mp} (h : McIs w P m) {v : Value} {l : List UInt8} (hv : By w v l) (hl : l.length ≤ 1100000) {se sq a : Int} {sp : List Sp} {vo : List Int} (hg : getC l = some ⟨0, se, sq, a, sp, vo⟩) : Calls Tryz.prog 111 #[.pointer (some ⟨P.gi, 0, none⟩), v] w (CmdP w P (cmdM m (some ⟨0, se, sq, a, sp, vo⟩))) := by
 obtain ⟨p, n, c, rfl⟩ := hv.sl
 have hA := (Below.refl w.heap.size w).alloc (Nat.le_refl _) (.cells #[.int .i64 0, .int .i64 0, .int .i64 0, .int .i64 0, .int .i64 0, .int .i64 0, .int .i64 0, .int .i64 0] 66)
 have GT := hide (mget_any (hv.below hA) hl)
 rw [hg] at GT
 have HR := hide (RowR.new w rp0)
 have HA := hide hA
 have HM := hide h
 have HOK := hide (getC_some hg).1
 have hgi := h.row.lt
 clear h hv hl hg hA
 go_enter Tryz.func111, Tryz.ntmps111
 go_wp2_with fail
 refine GT.out.mono ?_
 rintro e w1 ⟨ps, ns, ds, pv, nv, dv, rfl, hos, hov, hb1⟩
 unfold cmV
 dsimp only
 have HB1 := hide (HA.out.trans (hb1.mono HA.out.size))
 have hr1 := HR.out.below hb1
 have hB := (Below.refl w1.heap.size w1).alloc (Nat.le_refl _) (.cells #[.int .i64 0, .int .i64 se, .int .i64 sq, .int .i64 a, .slice ps ns ds, .slice pv nv dv] 25)
 have hos1 := (hos.below hB)
 have hov1 := (hov.below hB)
 have hsz : w.heap.size < w1.heap.size := hr1.lt
 go_upto_region 2 with fail
 obtain ⟨X, hX⟩ : ∃ X, w1.alloc (.cells #[.int .i64 0, .int .i64 se, .int .i64 sq, .int .i64 a, .slice ps ns ds, .slice pv nv dv] 25) = X := ⟨_, rfl⟩
 have hb := RowC.new (k := 0) (se := se) (sq := sq) (a := a) (vs := .slice ps ns ds) (vv := .slice pv nv dv) w1
 rw [hX] at hb hB hos1 hov1
 obtain ⟨b, hbe⟩ : ∃ b, w1.heap.size = b := ⟨_, rfl⟩
 obtain ⟨r, hre⟩ : ∃ r, w.heap.size = r := ⟨_, rfl⟩
 have HX := hide (HB1.out.trans (hB.mono HB1.out.size))
 have hmx := HM.out.below HX.out
 have hrx := hr1.below hB
 rw [hre] at hrx
 rw [hbe] at hb
 have HRB : Hid (r < b ∧ w.heap.size = r ∧ P.gi < r ∧ (∀ k, McS P k → k < r)) := hide ⟨by omega, hre, by omega, fun k hk => by have := HM.out.lt k hk; omega⟩
 have HOS : Hid (OwnS r X (.slice ps ns ds) sp) := hide (by rw [← hre]; exact hos1.mono HA.out.size)
 have HOV : Hid (OwnN (r + 1) X (.slice pv nv dv) vo) := hide (hov1.mono (by simp; omega))
 have HMX := hide hmx
 have HRX := hide hrx
 have HBX := hide hb
 obtain ⟨x0, x1, x2, x3, x4, x5⟩ := hb.box
 have z0 := hmx.row.c0
 have z1 := hmx.row.c1
 have z2 := hmx.row.c2
 rw [hX, hbe, hre]
 clear hX hbe hre hos hov hb1 hr1 hB hos1 hov1 hsz hb hmx hrx HB1 HR GT hgi
 obtain ⟨j0, j1, j2, j3, j4, j5, j6, j7⟩ := (HRX.out).z
 obtain ⟨f0, f1, f2, f3, f4, f5, f6, f7⟩ := (HRX.out).f
 unfold rp0 at j0 j1 j2 j3 j4 j5 j6 j7
 dsimp only at j0 j1 j2 j3 j4 j5 j6 j7
 go_wp2_with fail
 have hst := setR_row (HRX.out) ⟨0, 0, 0, 0, 0, 0, 0, 0⟩
 have hcs := setR_chg X r ⟨0, 0, 0, 0, 0, 0, 0, 0⟩
 unfold setR at hst hcs
 dsimp only at hst hcs
 refine bodyPost_ret (v := .tuple #[.agg #[.int .i64 0, .int .i64 0, .int .i64 0, .int .i64 0, .int .i64 0, .int .i64 0, .int .i64 0, .int .i64 0], .nilIface]) (by
   generalize World.setCell (World.setCell (World.setCell (World.setCell (World.setCell (World.setCell (World.setCell (World.setCell X ⟨r, 0, none⟩ (.int .i64 0)) ⟨r, 1, none⟩ (.int .i64 0)) ⟨r, 2, none⟩ (.int .i64 0)) ⟨r, 3, none⟩ (.int .i64 0)) ⟨r, 4, none⟩ (.int .i64 0)) ⟨r, 5, none⟩ (.int .i64 0)) ⟨r, 6, none⟩ (.int .i64 0)) ⟨r, 7, none⟩ (.int .i64 0) = W9 at hst ⊢
   obtain ⟨m0, m1, m2, m3, m4, m5, m6, m7⟩ := hst.z
   dsimp only at m0 m1 m2 m3 m4 m5 m6 m7
   simp [results, Tryz.results111, go_sem, m0, m1, m2, m3, m4, m5, m6, m7]) rfl ?_
 exact ⟨rfl, P, (HM.out.toB HX.out).box HM.out.er hcs (by have := HRB.out; omega) (fun hk => by have := HRB.out.2.2.2 r hk; omega)⟩
set_option maxRecDepth 200000 in
set_option maxHeartbeats 8000000 in
theorem cmd1_any {w : World} {P : Pm} {m : Mp} (h : McIs w P m) {v : Value} {l : List UInt8} (hv : By w v l) (hl : l.length ≤ 1100000) {se sq a : Int} {sp : List Sp} {vo : List Int} (hg : getC l = some ⟨1, se, sq, a, sp, vo⟩) : Calls Tryz.prog 111 #[.pointer (some ⟨P.gi, 0, none⟩), v] w (CmdP w P (cmdM m (some ⟨1, se, sq, a, sp, vo⟩))) := by
 obtain ⟨p, n, c, rfl⟩ := hv.sl
 have hA := (Below.refl w.heap.size w).alloc (Nat.le_refl _) (.cells #[.int .i64 0, .int .i64 0, .int .i64 0, .int .i64 0, .int .i64 0, .int .i64 0, .int .i64 0, .int .i64 0] 66)
 have GT := hide (mget_any (hv.below hA) hl)
 rw [hg] at GT
 have HR := hide (RowR.new w rp0)
 have HA := hide hA
 have HM := hide h
 have HOK := hide (getC_some hg).1
 have hgi := h.row.lt
 clear h hv hl hg hA
 go_enter Tryz.func111, Tryz.ntmps111
 go_wp2_with fail
 refine GT.out.mono ?_
 rintro e w1 ⟨ps, ns, ds, pv, nv, dv, rfl, hos, hov, hb1⟩
 unfold cmV
 dsimp only
 have HB1 := hide (HA.out.trans (hb1.mono HA.out.size))
 have hr1 := HR.out.below hb1
 have hB := (Below.refl w1.heap.size w1).alloc (Nat.le_refl _) (.cells #[.int .i64 1, .int .i64 se, .int .i64 sq, .int .i64 a, .slice ps ns ds, .slice pv nv dv] 25)
 have hos1 := (hos.below hB)
 have hov1 := (hov.below hB)
 have hsz : w.heap.size < w1.heap.size := hr1.lt
 go_upto_region 2 with fail
 obtain ⟨X, hX⟩ : ∃ X, w1.alloc (.cells #[.int .i64 1, .int .i64 se, .int .i64 sq, .int .i64 a, .slice ps ns ds, .slice pv nv dv] 25) = X := ⟨_, rfl⟩
 have hb := RowC.new (k := 1) (se := se) (sq := sq) (a := a) (vs := .slice ps ns ds) (vv := .slice pv nv dv) w1
 rw [hX] at hb hB hos1 hov1
 obtain ⟨b, hbe⟩ : ∃ b, w1.heap.size = b := ⟨_, rfl⟩
 obtain ⟨r, hre⟩ : ∃ r, w.heap.size = r := ⟨_, rfl⟩
 have HX := hide (HB1.out.trans (hB.mono HB1.out.size))
 have hmx := HM.out.below HX.out
 have hrx := hr1.below hB
 rw [hre] at hrx
 rw [hbe] at hb
 have HRB : Hid (r < b ∧ w.heap.size = r ∧ P.gi < r ∧ (∀ k, McS P k → k < r)) := hide ⟨by omega, hre, by omega, fun k hk => by have := HM.out.lt k hk; omega⟩
 have HOS : Hid (OwnS r X (.slice ps ns ds) sp) := hide (by rw [← hre]; exact hos1.mono HA.out.size)
 have HOV : Hid (OwnN (r + 1) X (.slice pv nv dv) vo) := hide (hov1.mono (by simp; omega))
 have HMX := hide hmx
 have HRX := hide hrx
 have HBX := hide hb
 obtain ⟨x0, x1, x2, x3, x4, x5⟩ := hb.box
 have z0 := hmx.row.c0
 have z1 := hmx.row.c1
 have z2 := hmx.row.c2
 rw [hX, hbe, hre]
 clear hX hbe hre hos hov hb1 hr1 hB hos1 hov1 hsz hb hmx hrx HB1 HR GT hgi
 have HOP := hide ((ses_open_any (w := X.drew) (HMX.out.tb.below (bdrew X 1)) (n := m.ix) (WalkArith.wf_i64 (by have := HM.out.ok.i0; have := HM.out.ok.i1; omega))))
 obtain ⟨ix, hix⟩ : ∃ i, m.ix = i := ⟨_, rfl⟩
 obtain ⟨E1, hE1⟩ : ∃ e, (openT m.L m.ix).1 = e := ⟨_, rfl⟩
 rw [hE1] at HOP
 rw [hix] at z2 HOP
 have HIX := hide (And.intro hix hE1)
 have HKP : Hid (∀ U, Chg X.drew U (fun k => k = P.bt) → U.cell? ⟨P.gi, 1, none⟩ = some (.pointer (some ⟨P.gt, 0, none⟩)) ∧ U.cell? ⟨P.gi, 2, none⟩ = some (.int .i64 ix)) := hide fun U hU => ⟨hU.cell HMX.out.row.c1 HMX.out.a2.2, hU.cell (by have h := HMX.out.row.c2; rw [hix] at h; exact h) HMX.out.a2.2⟩
 have HGR : Hid (P.gi ≠ r) := hide (by have := HRB.out.2.2.1; omega)
 have HBR : Hid (¬ r = P.bt) := hide (fun e => by have := HRB.out.2.2.2 P.bt (.inr (.inr (.inl rfl))); omega)
 clear hix hE1 z0 x1 x2 x3 x4 x5
 go_upto_region 6 with fail
 refine wp_region_held_drew (S := (fun U => U.cell? ⟨P.gi, 1, none⟩ = some (.pointer (some ⟨P.gt, 0, none⟩)) ∧ U.cell? ⟨P.gi, 2, none⟩ = some (.int .i64 ix))) (by kernel_rfl) ?_ (fun hHeld => ?_)
 ·(try dsimp only)
  exact HKP.out _ (Chg.refl _ _)
 refine tkI (i := 0) (oi := ⟨some 22, Op.move (Operand.tmp 0), 97, _, _, none⟩) (v := ?_) rfl (by rfl) ?_ ?_
 rotate_left
 ·intro w hSw
  (try dsimp only at hSw)
  go_simp
  try with_reducible rfl
 try simp only [Act.put, qA, qB, qC]
 refine tkI (i := 1) (oi := ⟨some 23, Op.nilCheck (Operand.tmp 22), 0, _, _, none⟩) (v := ?_) rfl (by rfl) ?_ ?_
 rotate_left
 ·intro w hSw
  (try dsimp only at hSw)
  go_simp
  try with_reducible rfl
 try simp only [Act.put, qA, qB, qC]
 refine tkI (i := 2) (oi := ⟨some 24, Op.fieldAddr 131 (Operand.tmp 23) 2, 0, _, _, none⟩) (v := ?_) rfl (by rfl) ?_ ?_
 rotate_left
 ·intro w hSw
  (try dsimp only at hSw)
  go_simp
  try with_reducible rfl
 try simp only [Act.put, qA, qB, qC]
 refine tkI (i := 3) (oi := ⟨some 25, Op.load 3 (Operand.tmp 24), 3, _, _, none⟩) (v := ?_) rfl (by rfl) ?_ ?_
 rotate_left
 ·intro w hSw
  (try dsimp only at hSw)
  go_simp
  try with_reducible rfl
 try simp only [Act.put, qA, qB, qC]
 refine tkI (i := 4) (oi := ⟨some 26, Op.build 66 #[(1, Operand.tmp 25)], 66, _, _, none⟩) (v := ?_) rfl (by rfl) ?_ ?_
 rotate_left
 ·intro w hSw
  (try dsimp only at hSw)
  go_simp
  try with_reducible rfl
 try simp only [Act.put, qA, qB, qC]
 refine tkI (i := 5) (oi := ⟨some 27, Op.move (Operand.tmp 0), 97, _, _, none⟩) (v := ?_) rfl (by rfl) ?_ ?_
 rotate_left
 ·intro w hSw
  (try dsimp only at hSw)
  go_simp
  try with_reducible rfl
 try simp only [Act.put, qA, qB, qC]
 refine tkI (i := 6) (oi := ⟨some 28, Op.nilCheck (Operand.tmp 27), 0, _, _, none⟩) (v := ?_) rfl (by rfl) ?_ ?_
 rotate_left
 ·intro w hSw
  (try dsimp only at hSw)
  go_simp
  try with_reducible rfl
 try simp only [Act.put, qA, qB, qC]
 refine tkI (i := 7) (oi := ⟨some 29, Op.fieldAddr 131 (Operand.tmp 28) 1, 0, _, _, none⟩) (v := ?_) rfl (by rfl) ?_ ?_
 rotate_left
 ·intro w hSw
  (try dsimp only at hSw)
  go_simp
  try with_reducible rfl
 try simp only [Act.put, qA, qB, qC]
 refine tkI (i := 8) (oi := ⟨some 30, Op.load 128 (Operand.tmp 29), 128, _, _, none⟩) (v := ?_) rfl (by rfl) ?_ ?_
 rotate_left
 ·intro w hSw
  (try dsimp only at hSw)
  go_simp
  try with_reducible rfl
 try simp only [Act.put, qA, qB, qC]
 refine tkI (i := 9) (oi := ⟨some 31, Op.move (Operand.tmp 0), 97, _, _, none⟩) (v := ?_) rfl (by rfl) ?_ ?_
 rotate_left
 ·intro w hSw
  (try dsimp only at hSw)
  go_simp
  try with_reducible rfl
 try simp only [Act.put, qA, qB, qC]
 refine tkI (i := 10) (oi := ⟨some 32, Op.nilCheck (Operand.tmp 31), 0, _, _, none⟩) (v := ?_) rfl (by rfl) ?_ ?_
 rotate_left
 ·intro w hSw
  (try dsimp only at hSw)
  go_simp
  try with_reducible rfl
 try simp only [Act.put, qA, qB, qC]
 refine tkI (i := 11) (oi := ⟨some 33, Op.fieldAddr 131 (Operand.tmp 32) 2, 0, _, _, none⟩) (v := ?_) rfl (by rfl) ?_ ?_
 rotate_left
 ·intro w hSw
  (try dsimp only at hSw)
  go_simp
  try with_reducible rfl
 try simp only [Act.put, qA, qB, qC]
 refine tkI (i := 12) (oi := ⟨some 34, Op.load 3 (Operand.tmp 33), 3, _, _, none⟩) (v := ?_) rfl (by rfl) ?_ ?_
 rotate_left
 ·intro w hSw
  (try dsimp only at hSw)
  go_simp
  try with_reducible rfl
 try simp only [Act.put, qA, qB, qC]
 refine wpAnyH_ready (rs := [13]) (by kernel_rfl) (by simp) ?_
 refine AllReadyH.cons (o := ⟨some 35, Op.call { callee := Callee.value (Operand.func 148), args := #[Operand.tmp 30, Operand.tmp 34], argTypes := #[128, 3] }, 33, _, _, none⟩) rfl (fun K hK => ?_) ?_
 ·go_simp
  go_at_call 148
  refine HOP.out.mono ?_
  rintro e5 w5 ⟨rfl, ht5, hc5⟩
  have hr5 := (show RowR X.drew r rp0 from HRX.out).chg hc5 HBR.out
  obtain ⟨j0, j1, j2, j3, j4, j5, j6, j7⟩ := hr5.z
  obtain ⟨f0, f1, f2, f3, f4, f5, f6, f7⟩ := hr5.f
  first
   | refine hK.out _ _ ?_ (fun hHeld => ?_)
   | (go_wp2_with fail; refine hK.out _ _ ?_ (fun hHeld => ?_))
  ·(try dsimp only)
   exact HKP.out _ hc5
  clear hK K
  try simp only [Act.put, qA, qB, qC]
  refine wpAnyH_ready (rs := [14]) (by kernel_rfl) (by simp) ?_
  refine AllReadyH.cons (o := ⟨some 36, Op.call { callee := Callee.value (Operand.func 147), args := #[Operand.tmp 35], argTypes := #[33] }, 175, _, _, none⟩) rfl (fun K hK => ?_) ?_
  ·go_simp
   go_at_call 147
   refine (refused_any E1 _).mono ?_
   rintro e6 w6 ⟨rfl, rfl⟩
   first
    | refine hK.out _ _ ?_ (fun hHeld => ?_)
    | (go_wp2_with fail; refine hK.out _ _ ?_ (fun hHeld => ?_))
   ·(try dsimp only)
    exact HKP.out _ hc5
   clear hK K
   try simp only [Act.put, qA, qB, qC]
   refine wpAnyH_ready (rs := [15]) (by kernel_rfl) (by simp) ?_
   refine AllReadyH.cons (o := ⟨none, Op.store 66 (Operand.tmp 4) (Operand.tmp 26), 0, _, _, none⟩) rfl (fun K hK => ?_) ?_
   ·go_simp
    first
     | refine hK.out _ _ ?_ (fun hHeld => ?_)
     | (go_wp2_with fail; refine hK.out _ _ ?_ (fun hHeld => ?_))
    ·(try dsimp only)
     exact ⟨keep8 (HKP.out _ hc5).1 HGR.out _ _ _ _ _ _ _ _, keep8 (HKP.out _ hc5).2 HGR.out _ _ _ _ _ _ _ _⟩
    clear hK K
    try simp only [Act.put, qA, qB, qC]
    refine tkI (i := 16) (oi := ⟨some 5, Op.assign (Operand.tmp 36), 175, _, _, none⟩) (v := ?_) rfl (by rfl) ?_ ?_
    rotate_left
    ·intro w hSw
     (try dsimp only at hSw)
     go_simp
     try with_reducible rfl
    try simp only [Act.put, qA, qB, qC]
    refine wpAnyH_done (by kernel_rfl) ?_ _
    go_wp2
    have hst := setR_row (hr5) ⟨0, ix, 0, 0, 0, 0, 0, 0⟩
    have hcs := setR_chg w5 r ⟨0, ix, 0, 0, 0, 0, 0, 0⟩
    unfold setR at hst hcs
    dsimp only at hst hcs
    refine bodyPost_ret (v := .tuple #[.agg #[.int .i64 0, .int .i64 ix, .int .i64 0, .int .i64 0, .int .i64 0, .int .i64 0, .int .i64 0, .int .i64 0], errV E1]) (by
      generalize World.setCell (World.setCell (World.setCell (World.setCell (World.setCell (World.setCell (World.setCell (World.setCell w5 ⟨r, 0, none⟩ (.int .i64 0)) ⟨r, 1, none⟩ (.int .i64 ix)) ⟨r, 2, none⟩ (.int .i64 0)) ⟨r, 3, none⟩ (.int .i64 0)) ⟨r, 4, none⟩ (.int .i64 0)) ⟨r, 5, none⟩ (.int .i64 0)) ⟨r, 6, none⟩ (.int .i64 0)) ⟨r, 7, none⟩ (.int .i64 0) = W9 at hst ⊢
      obtain ⟨m0, m1, m2, m3, m4, m5, m6, m7⟩ := hst.z
      dsimp only at m0 m1 m2 m3 m4 m5 m6 m7
      simp [results, Tryz.results111, go_sem, m0, m1, m2, m3, m4, m5, m6, m7]) rfl ?_
    have hto := (HMX.out.drewN 1).tab ht5 hc5
    rw [← HIX.out.1] at hto
    refine ⟨by rw [← HIX.out.1, ← HIX.out.2]; rfl, P, ?_⟩
    exact McTo.box HM.out.er (hto.from (HX.out.trans ((bdrew X 1).mono HX.out.size))) hcs (by have := HRB.out; omega) (fun hk => by have := HRB.out.2.2.2 r hk; omega)
   exact AllReadyH.nil
  exact AllReadyH.nil
 exact AllReadyH.nil
set_option maxRecDepth 200000 in
set_option maxHeartbeats 8000000 in
theorem cmd3_any {w : World} {P : Pm} {m : Mp} (h : McIs w P m) {v : Value} {l : List UInt8} (hv : By w v l) (hl : l.length ≤ 1100000) {se sq a : Int} {sp : List Sp} {vo : List Int} (hg : getC l = some ⟨3, se, sq, a, sp, vo⟩) : Calls Tryz.prog 111 #[.pointer (some ⟨P.gi, 0, none⟩), v] w (CmdP w P (cmdM m (some ⟨3, se, sq, a, sp, vo⟩))) := by
 obtain ⟨p, n, c, rfl⟩ := hv.sl
 have hA := (Below.refl w.heap.size w).alloc (Nat.le_refl _) (.cells #[.int .i64 0, .int .i64 0, .int .i64 0, .int .i64 0, .int .i64 0, .int .i64 0, .int .i64 0, .int .i64 0] 66)
 have GT := hide (mget_any (hv.below hA) hl)
 rw [hg] at GT
 have HR := hide (RowR.new w rp0)
 have HA := hide hA
 have HM := hide h
 have HOK := hide (getC_some hg).1
 have hgi := h.row.lt
 clear h hv hl hg hA
 go_enter Tryz.func111, Tryz.ntmps111
 go_wp2_with fail
 refine GT.out.mono ?_
 rintro e w1 ⟨ps, ns, ds, pv, nv, dv, rfl, hos, hov, hb1⟩
 unfold cmV
 dsimp only
 have HB1 := hide (HA.out.trans (hb1.mono HA.out.size))
 have hr1 := HR.out.below hb1
 have hB := (Below.refl w1.heap.size w1).alloc (Nat.le_refl _) (.cells #[.int .i64 3, .int .i64 se, .int .i64 sq, .int .i64 a, .slice ps ns ds, .slice pv nv dv] 25)
 have hos1 := (hos.below hB)
 have hov1 := (hov.below hB)
 have hsz : w.heap.size < w1.heap.size := hr1.lt
 go_upto_region 2 with fail
 obtain ⟨X, hX⟩ : ∃ X, w1.alloc (.cells #[.int .i64 3, .int .i64 se, .int .i64 sq, .int .i64 a, .slice ps ns ds, .slice pv nv dv] 25) = X := ⟨_, rfl⟩
 have hb := RowC.new (k := 3) (se := se) (sq := sq) (a := a) (vs := .slice ps ns ds) (vv := .slice pv nv dv) w1
 rw [hX] at hb hB hos1 hov1
 obtain ⟨b, hbe⟩ : ∃ b, w1.heap.size = b := ⟨_, rfl⟩
 obtain ⟨r, hre⟩ : ∃ r, w.heap.size = r := ⟨_, rfl⟩
 have HX := hide (HB1.out.trans (hB.mono HB1.out.size))
 have hmx := HM.out.below HX.out
 have hrx := hr1.below hB
 rw [hre] at hrx
 rw [hbe] at hb
 have HRB : Hid (r < b ∧ w.heap.size = r ∧ P.gi < r ∧ (∀ k, McS P k → k < r)) := hide ⟨by omega, hre, by omega, fun k hk => by have := HM.out.lt k hk; omega⟩
 have HOS : Hid (OwnS r X (.slice ps ns ds) sp) := hide (by rw [← hre]; exact hos1.mono HA.out.size)
 have HOV : Hid (OwnN (r + 1) X (.slice pv nv dv) vo) := hide (hov1.mono (by simp; omega))
 have HMX := hide hmx
 have HRX := hide hrx
 have HBX := hide hb
 obtain ⟨x0, x1, x2, x3, x4, x5⟩ := hb.box
 have z0 := hmx.row.c0
 have z1 := hmx.row.c1
 have z2 := hmx.row.c2
 rw [hX, hbe, hre]
 clear hX hbe hre hos hov hb1 hr1 hB hos1 hov1 hsz hb hmx hrx HB1 HR GT hgi
 have HOP := hide (ses_expire_any (w := X.drew) (HMX.out.tb.below (bdrew X 1)) a)
 obtain ⟨N1, hN1⟩ : ∃ e : Int, (m.L.length : Int) - (expT m.L a).length = e := ⟨_, rfl⟩
 rw [hN1] at HOP
 have HN1 := hide hN1
 have HKP : Hid (∀ U, Chg X.drew U (fun k => k = P.bt) → U.cell? ⟨P.gi, 1, none⟩ = some (.pointer (some ⟨P.gt, 0, none⟩)) ∧ U.cell? ⟨b, 3, none⟩ = some (.int .i64 a)) := hide fun U hU => ⟨hU.cell HMX.out.row.c1 HMX.out.a2.2, hU.cell HBX.out.box.2.2.2.1 (fun (e : b = P.bt) => by have := HRB.out.2.2.2 P.bt (.inr (.inr (.inl rfl))); have := HRB.out.1; omega)⟩
 have HNR : Hid (¬ r = P.bt) := hide (fun e => by have := HRB.out.2.2.2 P.bt (.inr (.inr (.inl rfl))); omega)
 have HGR : Hid (P.gi ≠ r ∧ b ≠ r) := hide (by have := HRB.out.2.2.1; have := HRB.out.1; omega)
 clear hN1 x1 x2 x4 x5
 go_upto_region 10 with fail
 refine wp_region_held_drew (S := (fun U => U.cell? ⟨P.gi, 1, none⟩ = some (.pointer (some ⟨P.gt, 0, none⟩)) ∧ U.cell? ⟨b, 3, none⟩ = some (.int .i64 a))) (by kernel_rfl) ?_ (fun hHeld => ?_)
 ·(try dsimp only)
  exact HKP.out _ (Chg.refl _ _)
 refine tkI (i := 0) (oi := ⟨some 46, Op.move (Operand.tmp 0), 97, _, _, none⟩) (v := ?_) rfl (by rfl) ?_ ?_
 rotate_left
 ·intro w hSw
  (try dsimp only at hSw)
  go_simp
  try with_reducible rfl
 try simp only [Act.put, qA, qB, qC]
 refine tkI (i := 1) (oi := ⟨some 47, Op.nilCheck (Operand.tmp 46), 0, _, _, none⟩) (v := ?_) rfl (by rfl) ?_ ?_
 rotate_left
 ·intro w hSw
  (try dsimp only at hSw)
  go_simp
  try with_reducible rfl
 try simp only [Act.put, qA, qB, qC]
 refine tkI (i := 2) (oi := ⟨some 48, Op.fieldAddr 131 (Operand.tmp 47) 1, 0, _, _, none⟩) (v := ?_) rfl (by rfl) ?_ ?_
 rotate_left
 ·intro w hSw
  (try dsimp only at hSw)
  go_simp
  try with_reducible rfl
 try simp only [Act.put, qA, qB, qC]
 refine tkI (i := 3) (oi := ⟨some 49, Op.load 128 (Operand.tmp 48), 128, _, _, none⟩) (v := ?_) rfl (by rfl) ?_ ?_
 rotate_left
 ·intro w hSw
  (try dsimp only at hSw)
  go_simp
  try with_reducible rfl
 try simp only [Act.put, qA, qB, qC]
 refine tkI (i := 4) (oi := ⟨some 50, Op.fieldAddr 25 (Operand.tmp 6) 3, 0, _, _, none⟩) (v := ?_) rfl (by rfl) ?_ ?_
 rotate_left
 ·intro w hSw
  (try dsimp only at hSw)
  go_simp
  try with_reducible rfl
 try simp only [Act.put, qA, qB, qC]
 refine tkI (i := 5) (oi := ⟨some 51, Op.load 3 (Operand.tmp 50), 3, _, _, none⟩) (v := ?_) rfl (by rfl) ?_ ?_
 rotate_left
 ·intro w hSw
  (try dsimp only at hSw)
  go_simp
  try with_reducible rfl
 try simp only [Act.put, qA, qB, qC]
 refine wpAnyH_ready (rs := [6]) (by kernel_rfl) (by simp) ?_
 refine AllReadyH.cons (o := ⟨some 52, Op.call { callee := Callee.value (Operand.func 150), args := #[Operand.tmp 49, Operand.tmp 51], argTypes := #[128, 3] }, 3, _, _, none⟩) rfl (fun K hK => ?_) ?_
 ·go_simp
  go_at_call 150
  refine HOP.out.mono ?_
  rintro e5 w5 ⟨rfl, ht5, hc5⟩
  have hr5 := (show RowR X.drew r rp0 from HRX.out).chg hc5 HNR.out
  obtain ⟨j0, j1, j2, j3, j4, j5, j6, j7⟩ := hr5.z
  obtain ⟨f0, f1, f2, f3, f4, f5, f6, f7⟩ := hr5.f
  first
   | refine hK.out _ _ ?_ (fun hHeld => ?_)
   | (go_wp2_with fail; refine hK.out _ _ ?_ (fun hHeld => ?_))
  ·(try dsimp only)
   exact HKP.out _ hc5
  clear hK K
  try simp only [Act.put, qA, qB, qC]
  refine tkI (i := 7) (oi := ⟨some 53, Op.build 66 #[(2, Operand.tmp 52)], 66, _, _, none⟩) (v := ?_) rfl (by rfl) ?_ ?_
  rotate_left
  ·intro w hSw
   (try dsimp only at hSw)
   go_simp
   try with_reducible rfl
  try simp only [Act.put, qA, qB, qC]
  refine wpAnyH_ready (rs := [8]) (by kernel_rfl) (by simp) ?_
  refine AllReadyH.cons (o := ⟨none, Op.store 66 (Operand.tmp 4) (Operand.tmp 53), 0, _, _, none⟩) rfl (fun K hK => ?_) ?_
  ·go_simp
   first
    | refine hK.out _ _ ?_ (fun hHeld => ?_)
    | (go_wp2_with fail; refine hK.out _ _ ?_ (fun hHeld => ?_))
   ·(try dsimp only)
    exact ⟨keep8 (HKP.out _ hc5).1 HGR.out.1 _ _ _ _ _ _ _ _, keep8 (HKP.out _ hc5).2 HGR.out.2 _ _ _ _ _ _ _ _⟩
   clear hK K
   try simp only [Act.put, qA, qB, qC]
   refine tkI (i := 9) (oi := ⟨some 5, Op.assign (Operand.const Value.nilIface), 175, _, _, none⟩) (v := ?_) rfl (by rfl) ?_ ?_
   rotate_left
   ·intro w hSw
    (try dsimp only at hSw)
    go_simp
    try with_reducible rfl
   try simp only [Act.put, qA, qB, qC]
   refine wpAnyH_done (by kernel_rfl) ?_ _
   go_wp2
   have hst := setR_row (hr5) ⟨0, 0, N1, 0, 0, 0, 0, 0⟩
   have hcs := setR_chg w5 r ⟨0, 0, N1, 0, 0, 0, 0, 0⟩
   unfold setR at hst hcs
   dsimp only at hst hcs
   refine bodyPost_ret (v := .tuple #[.agg #[.int .i64 0, .int .i64 0, .int .i64 N1, .int .i64 0, .int .i64 0, .int .i64 0, .int .i64 0, .int .i64 0], .nilIface]) (by
     generalize World.setCell (World.setCell (World.setCell (World.setCell (World.setCell (World.setCell (World.setCell (World.setCell w5 ⟨r, 0, none⟩ (.int .i64 0)) ⟨r, 1, none⟩ (.int .i64 0)) ⟨r, 2, none⟩ (.int .i64 N1)) ⟨r, 3, none⟩ (.int .i64 0)) ⟨r, 4, none⟩ (.int .i64 0)) ⟨r, 5, none⟩ (.int .i64 0)) ⟨r, 6, none⟩ (.int .i64 0)) ⟨r, 7, none⟩ (.int .i64 0) = W9 at hst ⊢
     obtain ⟨m0, m1, m2, m3, m4, m5, m6, m7⟩ := hst.z
     dsimp only at m0 m1 m2 m3 m4 m5 m6 m7
     simp [results, Tryz.results111, go_sem, m0, m1, m2, m3, m4, m5, m6, m7]) rfl ?_
   have hto := (HMX.out.drewN 1).tab ht5 hc5
   refine ⟨by rw [← HN1.out]; rfl, P, ?_⟩
   refine McTo.box HM.out.er (hto.from (HX.out.trans ((bdrew X 1).mono HX.out.size))) hcs (by have := HRB.out; omega) (fun hk => ?_)
   have := HRB.out.2.2.2 r hk; omega
  exact AllReadyH.nil
 exact AllReadyH.nil
set_option maxRecDepth 200000 in
set_option maxHeartbeats 8000000 in
theorem cmd4_any {w : World} {P : Pm} {m : Mp} (h : McIs w P m) {v : Value} {l : List UInt8} (hv : By w v l) (hl : l.length ≤ 1100000) {se sq a : Int} {sp : List Sp} {vo : List Int} (hg : getC l = some ⟨4, se, sq, a, sp, vo⟩) : Calls Tryz.prog 111 #[.pointer (some ⟨P.gi, 0, none⟩), v] w (CmdP w P (cmdM m (some ⟨4, se, sq, a, sp, vo⟩))) := by
 obtain ⟨p, n, c, rfl⟩ := hv.sl
 have hA := (Below.refl w.heap.size w).alloc (Nat.le_refl _) (.cells #[.int .i64 0, .int .i64 0, .int .i64 0, .int .i64 0, .int .i64 0, .int .i64 0, .int .i64 0, .int .i64 0] 66)
 have GT := hide (mget_any (hv.below hA) hl)
 rw [hg] at GT
 have HR := hide (RowR.new w rp0)
 have HA := hide hA
 have HM := hide h
 have HOK := hide (getC_some hg).1
 have hgi := h.row.lt
 clear h hv hl hg hA
 go_enter Tryz.func111, Tryz.ntmps111
 go_wp2_with fail
 refine GT.out.mono ?_
 rintro e w1 ⟨ps, ns, ds, pv, nv, dv, rfl, hos, hov, hb1⟩
 unfold cmV
 dsimp only
 have HB1 := hide (HA.out.trans (hb1.mono HA.out.size))
 have hr1 := HR.out.below hb1
 have hB := (Below.refl w1.heap.size w1).alloc (Nat.le_refl _) (.cells #[.int .i64 4, .int .i64 se, .int .i64 sq, .int .i64 a, .slice ps ns ds, .slice pv nv dv] 25)
 have hos1 := (hos.below hB)
 have hov1 := (hov.below hB)
 have hsz : w.heap.size < w1.heap.size := hr1.lt
 go_upto_region 2 with fail
 obtain ⟨X, hX⟩ : ∃ X, w1.alloc (.cells #[.int .i64 4, .int .i64 se, .int .i64 sq, .int .i64 a, .slice ps ns ds, .slice pv nv dv] 25) = X := ⟨_, rfl⟩
 have hb := RowC.new (k := 4) (se := se) (sq := sq) (a := a) (vs := .slice ps ns ds) (vv := .slice pv nv dv) w1
 rw [hX] at hb hB hos1 hov1
 obtain ⟨b, hbe⟩ : ∃ b, w1.heap.size = b := ⟨_, rfl⟩
 obtain ⟨r, hre⟩ : ∃ r, w.heap.size = r := ⟨_, rfl⟩
 have HX := hide (HB1.out.trans (hB.mono HB1.out.size))
 have hmx := HM.out.below HX.out
 have hrx := hr1.below hB
 rw [hre] at hrx
 rw [hbe] at hb
 have HRB : Hid (r < b ∧ w.heap.size = r ∧ P.gi < r ∧ (∀ k, McS P k → k < r)) := hide ⟨by omega, hre, by omega, fun k hk => by have := HM.out.lt k hk; omega⟩
 have HOS : Hid (OwnS r X (.slice ps ns ds) sp) := hide (by rw [← hre]; exact hos1.mono HA.out.size)
 have HOV : Hid (OwnN (r + 1) X (.slice pv nv dv) vo) := hide (hov1.mono (by simp; omega))
 have HMX := hide hmx
 have HRX := hide hrx
 have HBX := hide hb
 obtain ⟨x0, x1, x2, x3, x4, x5⟩ := hb.box
 have z0 := hmx.row.c0
 have z1 := hmx.row.c1
 have z2 := hmx.row.c2
 rw [hX, hbe, hre]
 clear hX hbe hre hos hov hb1 hr1 hB hos1 hov1 hsz hb hmx hrx HB1 HR GT hgi
 have HOP := hide (sretain_any (w := X.drew) (HMX.out.so.drewN 1) a)
 obtain ⟨N1, hN1⟩ : ∃ e : Int, (P.R.length : Int) - (retR P.R a).length = e := ⟨_, rfl⟩
 unfold RetPost at HOP
 rw [hN1] at HOP
 have HN1 : Hid ((m.S.length : Int) - (retS m.S a).length = N1) := hide (by
  rw [← HM.out.pl, ← retR_pl, List.length_map, List.length_map]
  exact hN1)
 have HKP : Hid (∀ U, Chg X.drew U (SoM P.bm P.R) → U.cell? ⟨P.gi, 0, none⟩ = some (.pointer (some ⟨P.gs, 0, none⟩)) ∧ U.cell? ⟨b, 3, none⟩ = some (.int .i64 a)) := hide fun U hU => ⟨(HMX.out.so.drewN 1).keep hU HMX.out.row.c0, (HMX.out.so.drewN 1).keep hU HBX.out.box.2.2.2.1⟩
 have HNR : Hid (¬ SoM P.bm P.R r) := hide (fun e => by have := HRB.out.2.2.2 r (.inr (.inr (.inr (.inl e.sub)))); omega)
 have HGR : Hid (P.gi ≠ r ∧ b ≠ r) := hide (by have := HRB.out.2.2.1; have := HRB.out.1; omega)
 clear hN1 x1 x2 x4 x5
 go_upto_region 12 with fail
 refine wp_region_held_drew (S := (fun U => U.cell? ⟨P.gi, 0, none⟩ = some (.pointer (some ⟨P.gs, 0, none⟩)) ∧ U.cell? ⟨b, 3, none⟩ = some (.int .i64 a))) (by kernel_rfl) ?_ (fun hHeld => ?_)
 ·(try dsimp only)
  exact HKP.out _ (Chg.refl _ _)
 refine tkI (i := 0) (oi := ⟨some 56, Op.move (Operand.tmp 0), 97, _, _, none⟩) (v := ?_) rfl (by rfl) ?_ ?_
 rotate_left
 ·intro w hSw
  (try dsimp only at hSw)
  go_simp
  try with_reducible rfl
 try simp only [Act.put, qA, qB, qC]
 refine tkI (i := 1) (oi := ⟨some 57, Op.nilCheck (Operand.tmp 56), 0, _, _, none⟩) (v := ?_) rfl (by rfl) ?_ ?_
 rotate_left
 ·intro w hSw
  (try dsimp only at hSw)
  go_simp
  try with_reducible rfl
 try simp only [Act.put, qA, qB, qC]
 refine tkI (i := 2) (oi := ⟨some 58, Op.fieldAddr 131 (Operand.tmp 57) 0, 0, _, _, none⟩) (v := ?_) rfl (by rfl) ?_ ?_
 rotate_left
 ·intro w hSw
  (try dsimp only at hSw)
  go_simp
  try with_reducible rfl
 try simp only [Act.put, qA, qB, qC]
 refine tkI (i := 3) (oi := ⟨some 59, Op.load 126 (Operand.tmp 58), 126, _, _, none⟩) (v := ?_) rfl (by rfl) ?_ ?_
 rotate_left
 ·intro w hSw
  (try dsimp only at hSw)
  go_simp
  try with_reducible rfl
 try simp only [Act.put, qA, qB, qC]
 refine tkI (i := 4) (oi := ⟨some 60, Op.fieldAddr 25 (Operand.tmp 6) 3, 0, _, _, none⟩) (v := ?_) rfl (by rfl) ?_ ?_
 rotate_left
 ·intro w hSw
  (try dsimp only at hSw)
  go_simp
  try with_reducible rfl
 try simp only [Act.put, qA, qB, qC]
 refine tkI (i := 5) (oi := ⟨some 61, Op.load 3 (Operand.tmp 60), 3, _, _, none⟩) (v := ?_) rfl (by rfl) ?_ ?_
 rotate_left
 ·intro w hSw
  (try dsimp only at hSw)
  go_simp
  try with_reducible rfl
 try simp only [Act.put, qA, qB, qC]
 refine wpAnyH_ready (rs := [6]) (by kernel_rfl) (by simp) ?_
 refine AllReadyH.cons (o := ⟨some 62, Op.call { callee := Callee.value (Operand.func 151), args := #[Operand.tmp 59, Operand.tmp 61], argTypes := #[126, 3] }, 3, _, _, none⟩) rfl (fun K hK => ?_) ?_
 ·go_simp
  go_at_call 151
  refine HOP.out.mono ?_
  rintro e5 w5 ⟨rfl, ht5⟩
  have hc5 := ht5.chg
  have hr5 := (show RowR X.drew r rp0 from HRX.out).chg hc5 HNR.out
  obtain ⟨j0, j1, j2, j3, j4, j5, j6, j7⟩ := hr5.z
  obtain ⟨f0, f1, f2, f3, f4, f5, f6, f7⟩ := hr5.f
  first
   | refine hK.out _ _ ?_ (fun hHeld => ?_)
   | (go_wp2_with fail; refine hK.out _ _ ?_ (fun hHeld => ?_))
  ·(try dsimp only)
   exact HKP.out _ hc5
  clear hK K
  try simp only [Act.put, qA, qB, qC]
  refine tkI (i := 7) (oi := ⟨some 63, Op.build 66 #[(2, Operand.tmp 62)], 66, _, _, none⟩) (v := ?_) rfl (by rfl) ?_ ?_
  rotate_left
  ·intro w hSw
   (try dsimp only at hSw)
   go_simp
   try with_reducible rfl
  try simp only [Act.put, qA, qB, qC]
  refine wpAnyH_ready (rs := [8]) (by kernel_rfl) (by simp) ?_
  refine AllReadyH.cons (o := ⟨none, Op.store 66 (Operand.tmp 4) (Operand.tmp 63), 0, _, _, none⟩) rfl (fun K hK => ?_) ?_
  ·go_simp
   first
    | refine hK.out _ _ ?_ (fun hHeld => ?_)
    | (go_wp2_with fail; refine hK.out _ _ ?_ (fun hHeld => ?_))
   ·(try dsimp only)
    exact ⟨keep8 (HKP.out _ hc5).1 HGR.out.1 _ _ _ _ _ _ _ _, keep8 (HKP.out _ hc5).2 HGR.out.2 _ _ _ _ _ _ _ _⟩
   clear hK K
   try simp only [Act.put, qA, qB, qC]
   refine tkI (i := 9) (oi := ⟨some 5, Op.assign (Operand.const Value.nilIface), 175, _, _, none⟩) (v := ?_) rfl (by rfl) ?_ ?_
   rotate_left
   ·intro w hSw
    (try dsimp only at hSw)
    go_simp
    try with_reducible rfl
   try simp only [Act.put, qA, qB, qC]
   refine wpAnyH_done (by kernel_rfl) ?_ _
   go_wp2
   have hst := setR_row (hr5) ⟨0, 0, N1, 0, 0, 0, 0, 0⟩
   have hcs := setR_chg w5 r ⟨0, 0, N1, 0, 0, 0, 0, 0⟩
   unfold setR at hst hcs
   dsimp only at hst hcs
   refine bodyPost_ret (v := .tuple #[.agg #[.int .i64 0, .int .i64 0, .int .i64 N1, .int .i64 0, .int .i64 0, .int .i64 0, .int .i64 0, .int .i64 0], .nilIface]) (by
     generalize World.setCell (World.setCell (World.setCell (World.setCell (World.setCell (World.setCell (World.setCell (World.setCell w5 ⟨r, 0, none⟩ (.int .i64 0)) ⟨r, 1, none⟩ (.int .i64 0)) ⟨r, 2, none⟩ (.int .i64 N1)) ⟨r, 3, none⟩ (.int .i64 0)) ⟨r, 4, none⟩ (.int .i64 0)) ⟨r, 5, none⟩ (.int .i64 0)) ⟨r, 6, none⟩ (.int .i64 0)) ⟨r, 7, none⟩ (.int .i64 0) = W9 at hst ⊢
     obtain ⟨m0, m1, m2, m3, m4, m5, m6, m7⟩ := hst.z
     dsimp only at m0 m1 m2 m3 m4 m5 m6 m7
     simp [results, Tryz.results111, go_sem, m0, m1, m2, m3, m4, m5, m6, m7]) rfl ?_
   have hto := (HMX.out.drewN 1).sto (S' := retS m.S a) (R' := retR P.R a) (by have h1 := ht5; rw [HMX.out.pl] at h1; exact h1)
   refine ⟨by rw [← HN1.out]; rfl, { P with R := retR P.R a }, ?_⟩
   refine McTo.box HM.out.er (hto.from (HX.out.trans ((bdrew X 1).mono HX.out.size))) hcs (by have := HRB.out; omega) (fun hk => ?_)
   rcases hto.new r hk with e | e
   ·have := HRB.out.2.2.2 r e; omega
   ·have h1 := HRX.out.lt; have h2 : (X.drewN 1).heap.size = X.heap.size := rfl; omega
  exact AllReadyH.nil
 exact AllReadyH.nil
set_option maxRecDepth 200000 in
set_option maxHeartbeats 8000000 in
theorem cmd5_any {w : World} {P : Pm} {m : Mp} (h : McIs w P m) {v : Value} {l : List UInt8} (hv : By w v l) (hl : l.length ≤ 1100000) {se sq a : Int} {sp : List Sp} {vo : List Int} (hg : getC l = some ⟨5, se, sq, a, sp, vo⟩) : Calls Tryz.prog 111 #[.pointer (some ⟨P.gi, 0, none⟩), v] w (CmdP w P (cmdM m (some ⟨5, se, sq, a, sp, vo⟩))) := by
 obtain ⟨p, n, c, rfl⟩ := hv.sl
 have hA := (Below.refl w.heap.size w).alloc (Nat.le_refl _) (.cells #[.int .i64 0, .int .i64 0, .int .i64 0, .int .i64 0, .int .i64 0, .int .i64 0, .int .i64 0, .int .i64 0] 66)
 have GT := hide (mget_any (hv.below hA) hl)
 rw [hg] at GT
 have HR := hide (RowR.new w rp0)
 have HA := hide hA
 have HM := hide h
 have HOK := hide (getC_some hg).1
 have hgi := h.row.lt
 clear h hv hl hg hA
 go_enter Tryz.func111, Tryz.ntmps111
 go_wp2_with fail
 refine GT.out.mono ?_
 rintro e w1 ⟨ps, ns, ds, pv, nv, dv, rfl, hos, hov, hb1⟩
 unfold cmV
 dsimp only
 have HB1 := hide (HA.out.trans (hb1.mono HA.out.size))
 have hr1 := HR.out.below hb1
 have hB := (Below.refl w1.heap.size w1).alloc (Nat.le_refl _) (.cells #[.int .i64 5, .int .i64 se, .int .i64 sq, .int .i64 a, .slice ps ns ds, .slice pv nv dv] 25)
 have hos1 := (hos.below hB)
 have hov1 := (hov.below hB)
 have hsz : w.heap.size < w1.heap.size := hr1.lt
 go_upto_region 2 with fail
 obtain ⟨X, hX⟩ : ∃ X, w1.alloc (.cells #[.int .i64 5, .int .i64 se, .int .i64 sq, .int .i64 a, .slice ps ns ds, .slice pv nv dv] 25) = X := ⟨_, rfl⟩
 have hb := RowC.new (k := 5) (se := se) (sq := sq) (a := a) (vs := .slice ps ns ds) (vv := .slice pv nv dv) w1
 rw [hX] at hb hB hos1 hov1
 obtain ⟨b, hbe⟩ : ∃ b, w1.heap.size = b := ⟨_, rfl⟩
 obtain ⟨r, hre⟩ : ∃ r, w.heap.size = r := ⟨_, rfl⟩
 have HX := hide (HB1.out.trans (hB.mono HB1.out.size))
 have hmx := HM.out.below HX.out
 have hrx := hr1.below hB
 rw [hre] at hrx
 rw [hbe] at hb
 have HRB : Hid (r < b ∧ w.heap.size = r ∧ P.gi < r ∧ (∀ k, McS P k → k < r)) := hide ⟨by omega, hre, by omega, fun k hk => by have := HM.out.lt k hk; omega⟩
 have HOS : Hid (OwnS r X (.slice ps ns ds) sp) := hide (by rw [← hre]; exact hos1.mono HA.out.size)
 have HOV : Hid (OwnN (r + 1) X (.slice pv nv dv) vo) := hide (hov1.mono (by simp; omega))
 have HMX := hide hmx
 have HRX := hide hrx
 have HBX := hide hb
 obtain ⟨x0, x1, x2, x3, x4, x5⟩ := hb.box
 have z0 := hmx.row.c0
 have z1 := hmx.row.c1
 have z2 := hmx.row.c2
 rw [hX, hbe, hre]
 clear hX hbe hre hos hov hb1 hr1 hB hos1 hov1 hsz hb hmx hrx HB1 HR GT hgi
 have hvo : okR vo = true := by
  have h1 := HOK.out
  unfold Cm.ok Cm.may at h1
  simp at h1
  exact h1.1
 have f4 := HMX.out.row.fr 4
 have z4 := HMX.out.row.c4
 obtain ⟨Y, hY⟩ : ∃ Y, X.setCell ⟨P.gi, 4, none⟩ (.slice pv nv dv) = Y := ⟨_, rfl⟩
 have hcY : Chg X Y fun k => k = P.gi := by rw [← hY]; exact chg_set _ _ _ _
 have hrow : RowM Y { P with vv := .slice pv nv dv } { m with vo := vo } := by
  have h1 := HMX.out.row
  unfold RowM at h1 ⊢
  rw [← hY]
  show (X.setCell ⟨P.gi, 4, none⟩ (.slice pv nv dv)).heap[P.gi]? = _
  rw [heap_setCell_same X P.gi 4 _ 131 _ h1]
  rfl
 have hmy := HMX.out.vot HOV.out HRB.out.2.2.2 hvo hcY hrow
 have hry := HRX.out.chg hcY (fun (e : r = P.gi) => by have := HRB.out.2.2.1; omega)
 have HY := hide (And.intro hmy hcY)
 have HRY := hide hry
 clear hvo hcY hrow hmy hry z0 z1 z2 x1 x2 x3 x4
 go_upto_region 15 with fail
 clear hY z4 f4
 obtain ⟨j0, j1, j2, j3, j4, j5, j6, j7⟩ := (HRY.out).z
 obtain ⟨f0, f1, f2, f3, f4, f5, f6, f7⟩ := (HRY.out).f
 unfold rp0 at j0 j1 j2 j3 j4 j5 j6 j7
 dsimp only at j0 j1 j2 j3 j4 j5 j6 j7
 go_wp2_with fail
 have hst := setR_row (HRY.out) ⟨0, 0, 0, 0, 0, 0, 0, 0⟩
 have hcs := setR_chg Y r ⟨0, 0, 0, 0, 0, 0, 0, 0⟩
 unfold setR at hst hcs
 dsimp only at hst hcs
 refine bodyPost_ret (v := .tuple #[.agg #[.int .i64 0, .int .i64 0, .int .i64 0, .int .i64 0, .int .i64 0, .int .i64 0, .int .i64 0, .int .i64 0], .nilIface]) (by
   generalize World.setCell (World.setCell (World.setCell (World.setCell (World.setCell (World.setCell (World.setCell (World.setCell Y ⟨r, 0, none⟩ (.int .i64 0)) ⟨r, 1, none⟩ (.int .i64 0)) ⟨r, 2, none⟩ (.int .i64 0)) ⟨r, 3, none⟩ (.int .i64 0)) ⟨r, 4, none⟩ (.int .i64 0)) ⟨r, 5, none⟩ (.int .i64 0)) ⟨r, 6, none⟩ (.int .i64 0)) ⟨r, 7, none⟩ (.int .i64 0) = W9 at hst ⊢
   obtain ⟨m0, m1, m2, m3, m4, m5, m6, m7⟩ := hst.z
   dsimp only at m0 m1 m2 m3 m4 m5 m6 m7
   simp [results, Tryz.results111, go_sem, m0, m1, m2, m3, m4, m5, m6, m7]) rfl ?_
 have hto : McTo w Y P { P with vv := .slice pv nv dv } { m with vo := vo } := ⟨HY.out.1, rfl, (Chg.of_below HX.out (McC P)).trans (HY.out.2.mono (S' := McC P) (fun k e => .inl e)) (fun k e => .inl e), fun k hk => by
  rcases hk with e | e | e | e | e
  ·exact .inl (.inl e)
  ·exact .inl (.inr (.inl e))
  ·exact .inl (.inr (.inr (.inl e)))
  ·exact .inl (.inr (.inr (.inr (.inl e))))
  ·exact .inr (by have := (HOV.out.lt k e).1; have := HRB.out.2.1; omega)⟩
 refine ⟨rfl, { P with vv := .slice pv nv dv }, ?_⟩
 refine McTo.box HM.out.er hto hcs (by have := HRB.out; omega) (fun hk => ?_)
 rcases hk with e | e | e | e | e
 ·have := HRB.out.2.2.2 r (.inl e); omega
 ·have := HRB.out.2.2.2 r (.inr (.inl e)); omega
 ·have := HRB.out.2.2.2 r (.inr (.inr (.inl e))); omega
 ·have := HRB.out.2.2.2 r (.inr (.inr (.inr (.inl e)))); omega
 ·have := (HOV.out.lt r e).1; omega
set_option maxRecDepth 200000 in
set_option maxHeartbeats 8000000 in
theorem cmdN_any {w : World} {P : Pm} {m : Mp} (h : McIs w P m) {v : Value} {l : List UInt8} (hv : By w v l) (hl : l.length ≤ 1100000) (hg : getC l = none) : Calls Tryz.prog 111 #[.pointer (some ⟨P.gi, 0, none⟩), v] w (CmdP w P (cmdM m none)) := by
 obtain ⟨p, n, c, rfl⟩ := hv.sl
 have hA := (Below.refl w.heap.size w).alloc (Nat.le_refl _) (.cells #[.int .i64 0, .int .i64 0, .int .i64 0, .int .i64 0, .int .i64 0, .int .i64 0, .int .i64 0, .int .i64 0] 66)
 have GT := hide (mget_any (hv.below hA) hl)
 rw [hg] at GT
 have HR := hide (RowR.new w rp0)
 have HA := hide hA
 have HM := hide h
 clear h hv hl hg hA
 go_enter Tryz.func111, Tryz.ntmps111
 go_wp2_with fail
 refine GT.out.mono ?_
 rintro e w1 ⟨rfl, hb1⟩
 unfold cmV cm0
 dsimp only
 have HB1 := hide (HA.out.trans (hb1.mono HA.out.size))
 have hr1 := HR.out.below hb1
 have hB := (Below.refl w1.heap.size w1).alloc (Nat.le_refl _) (.cells #[.int .i64 0, .int .i64 0, .int .i64 0, .int .i64 0, .slice none 0 0, .slice none 0 0] 25)
 go_upto_region 3 with fail
 obtain ⟨X, hX⟩ : ∃ X, w1.alloc (.cells #[.int .i64 0, .int .i64 0, .int .i64 0, .int .i64 0, .slice none 0 0, .slice none 0 0] 25) = X := ⟨_, rfl⟩
 rw [hX] at hB
 obtain ⟨r, hre⟩ : ∃ r, w.heap.size = r := ⟨_, rfl⟩
 have HX := hide (HB1.out.trans (hB.mono HB1.out.size))
 have hrx := hr1.below hB
 rw [hre] at hrx
 have HRB : Hid (w.heap.size = r ∧ (∀ k, McS P k → k < r)) := hide ⟨hre, fun k hk => by have := HM.out.lt k hk; omega⟩
 have HRX := hide hrx
 obtain ⟨b, hbe⟩ : ∃ b, w1.heap.size = b := ⟨_, rfl⟩
 rw [hX, hre, hbe]
 clear hX hre hbe hb1 hr1 hB hrx HB1 HR GT
 obtain ⟨j0, j1, j2, j3, j4, j5, j6, j7⟩ := (HRX.out).z
 obtain ⟨f0, f1, f2, f3, f4, f5, f6, f7⟩ := (HRX.out).f
 unfold rp0 at j0 j1 j2 j3 j4 j5 j6 j7
 dsimp only at j0 j1 j2 j3 j4 j5 j6 j7
 go_wp2_with fail
 refine (refused_any 90 _).mono ?_
 rintro e w2 ⟨rfl, rfl⟩
 go_wp2_with fail
 have hst := setR_row (HRX.out) ⟨0, 0, 0, 0, 0, 0, 0, 0⟩
 have hcs := setR_chg X r ⟨0, 0, 0, 0, 0, 0, 0, 0⟩
 unfold setR at hst hcs
 dsimp only at hst hcs
 refine bodyPost_ret (v := .tuple #[.agg #[.int .i64 0, .int .i64 0, .int .i64 0, .int .i64 0, .int .i64 0, .int .i64 0, .int .i64 0, .int .i64 0], errV 90]) (by
   generalize World.setCell (World.setCell (World.setCell (World.setCell (World.setCell (World.setCell (World.setCell (World.setCell X ⟨r, 0, none⟩ (.int .i64 0)) ⟨r, 1, none⟩ (.int .i64 0)) ⟨r, 2, none⟩ (.int .i64 0)) ⟨r, 3, none⟩ (.int .i64 0)) ⟨r, 4, none⟩ (.int .i64 0)) ⟨r, 5, none⟩ (.int .i64 0)) ⟨r, 6, none⟩ (.int .i64 0)) ⟨r, 7, none⟩ (.int .i64 0) = W9 at hst ⊢
   obtain ⟨m0, m1, m2, m3, m4, m5, m6, m7⟩ := hst.z
   dsimp only at m0 m1 m2 m3 m4 m5 m6 m7
   simp [results, Tryz.results111, go_sem, m0, m1, m2, m3, m4, m5, m6, m7]) rfl ?_
 exact ⟨rfl, P, (HM.out.toB HX.out).box HM.out.er hcs (by have := HRB.out; omega) (fun hk => by have := HRB.out.2 r hk; omega)⟩
end Go.Proofs.YtionbmlicmibgaaGreatDoor
