import Derived.Test.YtionbmlicmibgaaGreatDoorMcMem
set_option linter.unusedVariables false
set_option linter.unusedSimpArgs false
namespace Go.Proofs.YtionbmlicmibgaaGreatDoor
open Go.Proofs.Tryz
set_option maxRecDepth 200000
set_option maxHeartbeats 8000000
open Go.RowKit
def Dd (n : Cn) : Rp := ⟨0, 0, 0, (n.add : Nat), (n.same : Nat), (n.other : Nat), (n.dw : Nat), (n.full : Nat)⟩
noncomputable def qe (m : Mp) (c : Cm) : Rp × Int × Mp :=
 if (gy m.L c.se c.sq).2.2 ≠ 0 ∨ (gy m.L c.se c.sq).2.1 = true then ((gy m.L c.se c.sq).1, (gy m.L c.se c.sq).2.2, m)
 else (Dd (nF m.S c.sp), (f_ m.L c.se c.sq m.ix (Dd (nF m.S c.sp))).1, { m with S := iH m.S c.sp, L := (f_ m.L c.se c.sq m.ix (Dd (nF m.S c.sp))).2 })
noncomputable def jX (m : Mp) : Option Cm → Rp × Int × Mp
 | none => (iG, 90, m)
 | some c => if c.k = 1 then (⟨0, m.ix, 0, 0, 0, 0, 0, 0⟩, (iC m.L m.ix).1, { m with L := (iC m.L m.ix).2 })
  else if c.k = 2 then qe m c
  else if c.k = 3 then (⟨0, 0, (m.L.length : Int) - (vX m.L c.a).length, 0, 0, 0, 0, 0⟩, 0, { m with L := vX m.L c.a })
  else if c.k = 4 then (⟨0, 0, (m.S.length : Int) - (sS m.S c.a).length, 0, 0, 0, 0, 0⟩, 0, { m with S := sS m.S c.a })
  else if c.k = 5 then (iG, 0, { m with vo := c.vo }) else (iG, 0, m)
def di (w : World) (b : Nat) (r : Rp) : Prop := w.heap[b]? = some (.cells #[.int .i64 r.er, .int .i64 r.rs, .int .i64 r.gn, .int .i64 r.ad, .int .i64 r.sa, .int .i64 r.ot, .int .i64 r.cy, .int .i64 r.fu] 66 (0, 0))
section
variable {w w' : World} {b : Nat} {r : Rp}
theorem di.new (w : World) (r : Rp) : di (w.alloc (.cells #[.int .i64 r.er, .int .i64 r.rs, .int .i64 r.gn, .int .i64 r.ad, .int .i64 r.sa, .int .i64 r.ot, .int .i64 r.cy, .int .i64 r.fu] 66)) w.heap.size r := acQ _ _
theorem di.z (h : di w b r) : w.cell? ⟨b, 0, none⟩ = some (.int .i64 r.er) ∧ w.cell? ⟨b, 1, none⟩ = some (.int .i64 r.rs) ∧ w.cell? ⟨b, 2, none⟩ = some (.int .i64 r.gn) ∧ w.cell? ⟨b, 3, none⟩ = some (.int .i64 r.ad) ∧ w.cell? ⟨b, 4, none⟩ = some (.int .i64 r.sa) ∧ w.cell? ⟨b, 5, none⟩ = some (.int .i64 r.ot) ∧ w.cell? ⟨b, 6, none⟩ = some (.int .i64 r.cy) ∧ w.cell? ⟨b, 7, none⟩ = some (.int .i64 r.fu) :=
 ⟨acC w b 0 _ 66 (0, 0) h, acC w b 1 _ 66 (0, 0) h, acC w b 2 _ 66 (0, 0) h, acC w b 3 _ 66 (0, 0) h, acC w b 4 _ 66 (0, 0) h, acC w b 5 _ 66 (0, 0) h, acC w b 6 _ 66 (0, 0) h, acC w b 7 _ 66 (0, 0) h⟩
theorem di.fr (h : di w b r) (i : Nat) : w.frozen? ⟨b, i, none⟩ = false := acI w b i _ 66 h
theorem di.f (h : di w b r) : w.frozen? ⟨b, 0, none⟩ = false ∧ w.frozen? ⟨b, 1, none⟩ = false ∧ w.frozen? ⟨b, 2, none⟩ = false ∧ w.frozen? ⟨b, 3, none⟩ = false ∧ w.frozen? ⟨b, 4, none⟩ = false ∧ w.frozen? ⟨b, 5, none⟩ = false ∧ w.frozen? ⟨b, 6, none⟩ = false ∧ w.frozen? ⟨b, 7, none⟩ = false := ⟨h.fr 0, h.fr 1, h.fr 2, h.fr 3, h.fr 4, h.fr 5, h.fr 6, h.fr 7⟩
theorem di.lt (h : di w b r) : b < w.heap.size := lt_of_cell h.z.1
theorem di.below (h : di w b r) (hb : Below w.heap.size w w') : di w' b r := (hb.block b h.lt).trans h
theorem di.aU {S : Nat → Prop} (h : di w b r) (hc : ak w w' S) (aN : ¬ S b) : di w' b r := (hc.block b h.lt aN).trans h
end
def kV (w : World) (b : Nat) (r : Rp) : World := (((((((w.setCell ⟨b, 0, none⟩ (.int .i64 r.er)).setCell ⟨b, 1, none⟩ (.int .i64 r.rs)).setCell ⟨b, 2, none⟩ (.int .i64 r.gn)).setCell ⟨b, 3, none⟩ (.int .i64 r.ad)).setCell ⟨b, 4, none⟩ (.int .i64 r.sa)).setCell ⟨b, 5, none⟩ (.int .i64 r.ot)).setCell ⟨b, 6, none⟩ (.int .i64 r.cy)).setCell ⟨b, 7, none⟩ (.int .i64 r.fu)
def eK (w : World) (b : Nat) (v0 v1 v2 v3 v4 v5 v6 v7 : Value) : Prop := w.heap[b]? = some (.cells #[v0, v1, v2, v3, v4, v5, v6, v7] 66 (0, 0))
section
variable {w : World} {b : Nat} {v0 v1 v2 v3 v4 v5 v6 v7 : Value}
theorem eK.s0 (h : eK w b v0 v1 v2 v3 v4 v5 v6 v7) (x : Value) : eK (w.setCell ⟨b, 0, none⟩ x) b x v1 v2 v3 v4 v5 v6 v7 := by unfold eK at *; rw [acK w b 0 _ 66 _ h]; rfl
theorem eK.s1 (h : eK w b v0 v1 v2 v3 v4 v5 v6 v7) (x : Value) : eK (w.setCell ⟨b, 1, none⟩ x) b v0 x v2 v3 v4 v5 v6 v7 := by unfold eK at *; rw [acK w b 1 _ 66 _ h]; rfl
theorem eK.s2 (h : eK w b v0 v1 v2 v3 v4 v5 v6 v7) (x : Value) : eK (w.setCell ⟨b, 2, none⟩ x) b v0 v1 x v3 v4 v5 v6 v7 := by unfold eK at *; rw [acK w b 2 _ 66 _ h]; rfl
theorem eK.s3 (h : eK w b v0 v1 v2 v3 v4 v5 v6 v7) (x : Value) : eK (w.setCell ⟨b, 3, none⟩ x) b v0 v1 v2 x v4 v5 v6 v7 := by unfold eK at *; rw [acK w b 3 _ 66 _ h]; rfl
theorem eK.s4 (h : eK w b v0 v1 v2 v3 v4 v5 v6 v7) (x : Value) : eK (w.setCell ⟨b, 4, none⟩ x) b v0 v1 v2 v3 x v5 v6 v7 := by unfold eK at *; rw [acK w b 4 _ 66 _ h]; rfl
theorem eK.s5 (h : eK w b v0 v1 v2 v3 v4 v5 v6 v7) (x : Value) : eK (w.setCell ⟨b, 5, none⟩ x) b v0 v1 v2 v3 v4 x v6 v7 := by unfold eK at *; rw [acK w b 5 _ 66 _ h]; rfl
theorem eK.s6 (h : eK w b v0 v1 v2 v3 v4 v5 v6 v7) (x : Value) : eK (w.setCell ⟨b, 6, none⟩ x) b v0 v1 v2 v3 v4 v5 x v7 := by unfold eK at *; rw [acK w b 6 _ 66 _ h]; rfl
theorem eK.s7 (h : eK w b v0 v1 v2 v3 v4 v5 v6 v7) (x : Value) : eK (w.setCell ⟨b, 7, none⟩ x) b v0 v1 v2 v3 v4 v5 v6 x := by unfold eK at *; rw [acK w b 7 _ 66 _ h]; rfl
end
theorem cV {w : World} {b : Nat} {r : Rp} (h : di w b r) (s : Rp) : di (kV w b s) b s :=
 ((((((((show eK w b _ _ _ _ _ _ _ _ from h).s0 (.int .i64 s.er)).s1 (.int .i64 s.rs)).s2 (.int .i64 s.gn)).s3 (.int .i64 s.ad)).s4 (.int .i64 s.sa)).s5 (.int .i64 s.ot)).s6 (.int .i64 s.cy)).s7 (.int .i64 s.fu)
theorem bT (w : World) (b : Nat) (s : Rp) : ak w (kV w b s) fun k => k = b :=
 eG (eG (eG (eG (eG (eG (eG (aC _ _ _ _) (aC _ _ _ _)) (aC _ _ _ _)) (aC _ _ _ _)) (aC _ _ _ _)) (aC _ _ _ _)) (aC _ _ _ _)) (aC _ _ _ _)
def yN (w : World) (P : Pm) (x : Rp × Int × Mp) (e : Ending) (w' : World) : Prop := e = .returned (.tuple #[wY x.1, rR x.2.1]) ∧ ∃ P', fV w w' P P' x.2.2
theorem fV.box {w w1 w2 : World} {P P' : Pm} {m' : Mp} {r : Nat} (hE : ko w) (h : fV w w1 P P' m') (hc : ak w1 w2 fun k => k = r) (hr : w.heap.size ≤ r) (hn : ¬ kU P' r) : fV w w2 P P' m' :=
 ⟨h.is.aU hc (fun k hk e => hn (e ▸ hk)) (fun e => by have := hE.pos; omega), h.gi, h.aU.trans hc (fun k e => .inr (by omega)), h.new⟩
theorem oX {U : World} {r g i : Nat} {u : Value} (h : U.cell? ⟨g, i, none⟩ = some u) (hg : g ≠ r) (v0 v1 v2 v3 v4 v5 v6 v7 : Value) : ((((((((U.setCell ⟨r, 0, none⟩ v0).setCell ⟨r, 1, none⟩ v1).setCell ⟨r, 2, none⟩ v2).setCell ⟨r, 3, none⟩ v3).setCell ⟨r, 4, none⟩ v4).setCell ⟨r, 5, none⟩ v5).setCell ⟨r, 6, none⟩ v6).setCell ⟨r, 7, none⟩ v7).cell? ⟨g, i, none⟩ = some u :=
 (eG (eG (eG (eG (eG (eG (eG (aC U r 0 v0) (aC _ _ _ _)) (aC _ _ _ _)) (aC _ _ _ _)) (aC _ _ _ _)) (aC _ _ _ _)) (aC _ _ _ _)) (aC _ _ _ _)).cell h hg
theorem dc.tab {w w' : World} {P : Pm} {m : Mp} (h : dc w P m) {L' : List St} (ht : d_ w' P.gt P.bt L') (hc : ak w w' fun k => k = P.bt) : fV w w' P P { m with L := L' } :=
 ⟨⟨(hc.block _ h.row.lt h.a2.2).trans h.row, h.so.aU hc (fun k hk => (h.a1 k hk).2.2), h.pl, ht, h.vo.eG hc (fun k hk e => (h.a3 k hk).2.2.1 e), ⟨h.ok.i0, h.ok.i1, h.ok.t0, h.ok.t1, h.ok.vo⟩, h.er.aU hc (fun e => h.nz P.bt (.inr (.inr (.inl rfl))) e.symm), h.a1, h.a2, h.a3, h.nz⟩, rfl, hc.mono (fun k e => .inr (.inl e)), fun k hk => .inl hk⟩
theorem dc.U3 {w w' : World} {P : Pm} {m : Mp} (h : dc w P m) {R' : List Tr} {S' : List Pl} (ht : gC w w' P.gs P.bm P.R R' S') : fV w w' P { P with R := R' } { m with S := S' } := by
 have bd := h.lt;have bg : ∀ k, mT P.gs P.bm R' k → mT P.gs P.bm P.R k ∨ w.heap.size ≤ k := ht.new;have hM : ∀ k, vm P.bm P.R k → mT P.gs P.bm P.R k := fun k hk => hk.sub;refine ⟨⟨(ht.aU.block _ h.row.lt (fun e => (h.a1 _ (hM _ e)).1 rfl)).trans h.row, ht.is, ht.pl, h.tb.aU ht.aU (fun e => (h.a1 _ (hM _ e)).2.1 rfl) (fun e => (h.a1 _ (hM _ e)).2.2 rfl), h.vo.eG ht.aU (fun k hk e => (h.a3 k hk).2.2.2 (hM _ e)), ⟨h.ok.i0, h.ok.i1, h.ok.t0, h.ok.t1, h.ok.vo⟩, h.er.aU ht.aU (fun e => h.nz 0 (.inr (.inr (.inr (.inl (hM _ e))))) rfl), fun k hk => ?_, h.a2, fun k hk => ?_, fun k hk => ?_⟩, rfl, ht.aU.mono (fun k e => .inr (.inr e)), fun k hk => ?_⟩
 ·rcases bg k hk with e | e
  ·exact h.a1 k e
  ·have h1 := bd P.gi (.inl rfl);have h2 := bd P.gt (.inr (.inl rfl));have h3 := bd P.bt (.inr (.inr (.inl rfl)));exact ⟨by show k ≠ P.gi; omega, by show k ≠ P.gt; omega, by show k ≠ P.bt; omega⟩
 ·refine ⟨(h.a3 k hk).1, (h.a3 k hk).2.1, (h.a3 k hk).2.2.1, fun e => ?_⟩;rcases bg k e with e | e
  ·exact (h.a3 k hk).2.2.2 e
  ·have := bd k (.inr (.inr (.inr (.inr hk))));omega
 ·rcases hk with e | e | e | e | e
  ·exact h.nz k (.inl e)
  ·exact h.nz k (.inr (.inl e))
  ·exact h.nz k (.inr (.inr (.inl e)))
  ·rcases bg k e with e | e
   ·exact h.nz k (.inr (.inr (.inr (.inl e))))
   ·have := h.er.pos; omega
  ·exact h.nz k (.inr (.inr (.inr (.inr e))))
 ·rcases hk with e | e | e | e | e
  ·exact .inl (.inl e)
  ·exact .inl (.inr (.inl e))
  ·exact .inl (.inr (.inr (.inl e)))
  ·rcases bg k e with e | e
   ·exact .inl (.inr (.inr (.inr (.inl e))))
   ·exact .inr e
  ·exact .inl (.inr (.inr (.inr (.inr e))))
theorem dc.vot {w w' : World} {P : Pm} {m : Mp} (h : dc w P m) {u : Value} {l : List Int} {r : Nat} (hu : bJ (r + 1) w u l) (hr : ∀ k, kU P k → k < r) (hl : lU l = true) (hc : ak w w' fun k => k = P.gi) (aM : iq w' { P with vv := u } { m with vo := l }) : dc w' { P with vv := u } { m with vo := l } := by
 have vp := hr P.gi (.inl rfl);have JX := hr P.gt (.inr (.inl rfl));have bG := hr P.bt (.inr (.inr (.inl rfl)));have N8 : ∀ k, u.ownBlock = some k → r < k := fun k hk => (hu.lt k hk).1;exact ⟨aM, h.so.aU hc (fun k hk => (h.a1 k hk).1), h.pl, h.tb.aU hc (fun e => h.a2.1 e.symm) (fun e => h.a2.2 e.symm), (hu.mono (adq _)).eG hc (fun k hk (e : k = P.gi) => by have := N8 k hk; omega), ⟨h.ok.i0, h.ok.i1, h.ok.t0, h.ok.t1, hl⟩, h.er.aU hc (fun (e : 0 = P.gi) => h.nz P.gi (.inl rfl) e.symm), h.a1, h.a2, (fun k hk => ⟨by have := N8 k hk; show k ≠ P.gi; omega, by have := N8 k hk; show k ≠ P.gt; omega, by have := N8 k hk; show k ≠ P.bt; omega, fun e => by have := N8 k hk; have := hr k (.inr (.inr (.inr (.inl e)))); omega⟩), fun k hk => by
  rcases hk with e | e | e | e | e
  ·exact h.nz k (.inl e)
  ·exact h.nz k (.inr (.inl e))
  ·exact h.nz k (.inr (.inr (.inl e)))
  ·exact h.nz k (.inr (.inr (.inr (.inl e))))
  ·have := N8 k e; omega⟩
theorem fV.from {w v w' : World} {P P' : Pm} {m' : Mp} (hb : Below w.heap.size w v) (h : fV v w' P P' m') : fV w w' P P' m' := ⟨h.is, h.gi, (ak.of_below hb (Dz P)).trans h.aU (fun k e => .inl e), fun k hk => (h.new k hk).imp id (fun e => acN hb.size e)⟩
theorem dc.toB {w w' : World} {P : Pm} {m : Mp} (h : dc w P m) (hb : Below w.heap.size w w') : fV w w' P P m := ⟨h.below hb, rfl, ak.of_below hb _, fun k hk => .inl hk⟩
theorem Kr {w : World} {P : Pm} {m : Mp} (h : dc w P m) {v : Value} {l : List UInt8} (hv : By w v l) (hl : l.length ≤ 1100000) {se sq a : Int} {sp : List Sp} {vo : List Int} (hg : jY l = some ⟨0, se, sq, a, sp, vo⟩) : Calls prog 111 #[.pointer (some ⟨P.gi, 0, none⟩), v] w (yN w P (jX m (some ⟨0, se, sq, a, sp, vo⟩))) := by
 obtain ⟨p, n, c, rfl⟩ := hv.sl;have hA := (acG w.heap.size w).alloc (acE _) (.cells #[.int .i64 0, .int .i64 0, .int .i64 0, .int .i64 0, .int .i64 0, .int .i64 0, .int .i64 0, .int .i64 0] 66);have GT := af (ja (hv.below hA) hl);rw [hg] at GT;have HR := af (di.new w iG);have HA := af hA;have HM := af h;have fh := af (gD hg).1;have vp := h.row.lt;clear h hv hl hg hA;go_enter afm, afj
 go_wp2_with fail
 refine GT.out.mono ?_;rintro e w1 ⟨ps, ns, ds, pv, nv, dv, rfl, q_, fj, aK⟩;unfold pW;dsimp only;have aS := af (HA.out.trans (aK.mono HA.out.size));have eO := HR.out.below aK;have hB := (acG w1.heap.size w1).alloc (acE _) (.cells #[.int .i64 0, .int .i64 se, .int .i64 sq, .int .i64 a, .slice ps ns ds, .slice pv nv dv] 25);have jb := (q_.below hB)
 have jc := (fj.below hB)
 have kt : w.heap.size < w1.heap.size := eO.lt;go_upto_region 2 with fail
 obtain ⟨X, hX⟩ : ∃ X, w1.alloc (.cells #[.int .i64 0, .int .i64 se, .int .i64 sq, .int .i64 a, .slice ps ns ds, .slice pv nv dv] 25) = X := ⟨_, rfl⟩
 have hb := bk.new (k := 0) (se := se) (sq := sq) (a := a) (vs := .slice ps ns ds) (vv := .slice pv nv dv) w1;rw [hX] at hb hB jb jc;obtain ⟨b, eS⟩ : ∃ b, w1.heap.size = b := ⟨_, rfl⟩
 obtain ⟨r, cT⟩ : ∃ r, w.heap.size = r := ⟨_, rfl⟩
 have HX := af (aS.out.trans (hB.mono aS.out.size));have jB := HM.out.below HX.out;have nG := eO.below hB;rw [cT] at nG;rw [eS] at hb;have b_ : Hid (r < b ∧ w.heap.size = r ∧ P.gi < r ∧ (∀ k, kU P k → k < r)) := af ⟨by omega, cT, by omega, fun k hk => by have := HM.out.lt k hk; omega⟩;have U4 : Hid (aI r X (.slice ps ns ds) sp) := af (by rw [← cT]; exact jb.mono HA.out.size);have vq : Hid (bJ (r + 1) X (.slice pv nv dv) vo) := af (jc.mono (by simp; omega));have jE := af jB;have mR := af nG;have dH := af hb;obtain ⟨x0, x1, x2, x3, x4, x5⟩ := hb.box;have z0 := jB.row.c0;have z1 := jB.row.c1;have z2 := jB.row.c2;rw [hX, eS, cT];clear hX eS cT q_ fj aK eO hB jb jc kt hb jB nG aS HR GT vp;obtain ⟨j0, j1, j2, j3, j4, j5, j6, j7⟩ := (mR.out).z;obtain ⟨f0, f1, f2, f3, f4, f5, f6, f7⟩ := (mR.out).f;unfold iG at j0 j1 j2 j3 j4 j5 j6 j7;dsimp only at j0 j1 j2 j3 j4 j5 j6 j7;go_wp2_with fail
 have hst := cV (mR.out) ⟨0, 0, 0, 0, 0, 0, 0, 0⟩;have hcs := bT X r ⟨0, 0, 0, 0, 0, 0, 0, 0⟩;unfold kV at hst hcs;dsimp only at hst hcs;refine ac0 (v := .tuple #[.agg #[.int .i64 0, .int .i64 0, .int .i64 0, .int .i64 0, .int .i64 0, .int .i64 0, .int .i64 0, .int .i64 0], .nilIface]) (by
   generalize World.setCell (World.setCell (World.setCell (World.setCell (World.setCell (World.setCell (World.setCell (World.setCell X ⟨r, 0, none⟩ (.int .i64 0)) ⟨r, 1, none⟩ (.int .i64 0)) ⟨r, 2, none⟩ (.int .i64 0)) ⟨r, 3, none⟩ (.int .i64 0)) ⟨r, 4, none⟩ (.int .i64 0)) ⟨r, 5, none⟩ (.int .i64 0)) ⟨r, 6, none⟩ (.int .i64 0)) ⟨r, 7, none⟩ (.int .i64 0) = W9 at hst ⊢;obtain ⟨m0, m1, m2, m3, m4, m5, m6, m7⟩ := hst.z;dsimp only at m0 m1 m2 m3 m4 m5 m6 m7;simp [results, ae3, go_sem, m0, m1, m2, m3, m4, m5, m6, m7]) rfl ?_
 exact ⟨rfl, P, (HM.out.toB HX.out).box HM.out.er hcs (by have := b_.out; omega) (fun hk => by have := b_.out.2.2.2 r hk; omega)⟩
theorem Kt {w : World} {P : Pm} {m : Mp} (h : dc w P m) {v : Value} {l : List UInt8} (hv : By w v l) (hl : l.length ≤ 1100000) {se sq a : Int} {sp : List Sp} {vo : List Int} (hg : jY l = some ⟨1, se, sq, a, sp, vo⟩) : Calls prog 111 #[.pointer (some ⟨P.gi, 0, none⟩), v] w (yN w P (jX m (some ⟨1, se, sq, a, sp, vo⟩))) := by
 obtain ⟨p, n, c, rfl⟩ := hv.sl;have hA := (acG w.heap.size w).alloc (acE _) (.cells #[.int .i64 0, .int .i64 0, .int .i64 0, .int .i64 0, .int .i64 0, .int .i64 0, .int .i64 0, .int .i64 0] 66);have GT := af (ja (hv.below hA) hl);rw [hg] at GT;have HR := af (di.new w iG);have HA := af hA;have HM := af h;have fh := af (gD hg).1;have vp := h.row.lt;clear h hv hl hg hA;go_enter afm, afj
 go_wp2_with fail
 refine GT.out.mono ?_;rintro e w1 ⟨ps, ns, ds, pv, nv, dv, rfl, q_, fj, aK⟩;unfold pW;dsimp only;have aS := af (HA.out.trans (aK.mono HA.out.size));have eO := HR.out.below aK;have hB := (acG w1.heap.size w1).alloc (acE _) (.cells #[.int .i64 1, .int .i64 se, .int .i64 sq, .int .i64 a, .slice ps ns ds, .slice pv nv dv] 25);have jb := (q_.below hB)
 have jc := (fj.below hB)
 have kt : w.heap.size < w1.heap.size := eO.lt;go_upto_region 2 with fail
 obtain ⟨X, hX⟩ : ∃ X, w1.alloc (.cells #[.int .i64 1, .int .i64 se, .int .i64 sq, .int .i64 a, .slice ps ns ds, .slice pv nv dv] 25) = X := ⟨_, rfl⟩
 have hb := bk.new (k := 1) (se := se) (sq := sq) (a := a) (vs := .slice ps ns ds) (vv := .slice pv nv dv) w1;rw [hX] at hb hB jb jc;obtain ⟨b, eS⟩ : ∃ b, w1.heap.size = b := ⟨_, rfl⟩
 obtain ⟨r, cT⟩ : ∃ r, w.heap.size = r := ⟨_, rfl⟩
 have HX := af (aS.out.trans (hB.mono aS.out.size));have jB := HM.out.below HX.out;have nG := eO.below hB;rw [cT] at nG;rw [eS] at hb;have b_ : Hid (r < b ∧ w.heap.size = r ∧ P.gi < r ∧ (∀ k, kU P k → k < r)) := af ⟨by omega, cT, by omega, fun k hk => by have := HM.out.lt k hk; omega⟩;have U4 : Hid (aI r X (.slice ps ns ds) sp) := af (by rw [← cT]; exact jb.mono HA.out.size);have vq : Hid (bJ (r + 1) X (.slice pv nv dv) vo) := af (jc.mono (by simp; omega));have jE := af jB;have mR := af nG;have dH := af hb;obtain ⟨x0, x1, x2, x3, x4, x5⟩ := hb.box;have z0 := jB.row.c0;have z1 := jB.row.c1;have z2 := jB.row.c2;rw [hX, eS, cT];clear hX eS cT q_ fj aK eO hB jb jc kt hb jB nG aS HR GT vp;have AV := af ((yO (w := X.drew) (jE.out.tb.below (ag X 1)) (n := m.ix) (ad5 (by have := HM.out.ok.i0; have := HM.out.ok.i1; omega))));obtain ⟨ix, Nr⟩ : ∃ i, m.ix = i := ⟨_, rfl⟩
 obtain ⟨E1, Qp⟩ : ∃ e, (iC m.L m.ix).1 = e := ⟨_, rfl⟩
 rw [Qp] at AV;rw [Nr] at z2 AV;have Nt := af (acD Nr Qp);have eJ : Hid (∀ U, ak X.drew U (fun k => k = P.bt) → U.cell? ⟨P.gi, 1, none⟩ = some (.pointer (some ⟨P.gt, 0, none⟩)) ∧ U.cell? ⟨P.gi, 2, none⟩ = some (.int .i64 ix)) := af fun U hU => ⟨hU.cell jE.out.row.c1 jE.out.a2.2, hU.cell (by have h := jE.out.row.c2; rw [Nr] at h; exact h) jE.out.a2.2⟩
 have Nq : Hid (P.gi ≠ r) := af (by have := b_.out.2.2.1; omega);have Am : Hid (¬ r = P.bt) := af (fun e => by have := b_.out.2.2.2 P.bt (.inr (.inr (.inl rfl))); omega);clear Nr Qp z0 x1 x2 x3 x4 x5;go_upto_region 6 with fail
 refine ado (S := (fun U => U.cell? ⟨P.gi, 1, none⟩ = some (.pointer (some ⟨P.gt, 0, none⟩)) ∧ U.cell? ⟨P.gi, 2, none⟩ = some (.int .i64 ix))) (by kernel_rfl) ?_ (fun hHeld => ?_)
 ·(try dsimp only)
  exact eJ.out _ (ak.refl _ _)
 refine ao 0 rfl ?_;refine ao 1 rfl ?_;refine ao 2 rfl ?_;refine ao 3 rfl ?_;refine ao 4 rfl ?_;refine ao 5 rfl ?_;refine ao 6 rfl ?_;refine ao 7 rfl ?_;refine ao 8 rfl ?_;refine ao 9 rfl ?_;refine ao 10 rfl ?_;refine ao 11 rfl ?_;refine ao 12 rfl ?_;refine acU (rs := [13]) (by kernel_rfl) (by simp) ?_;refine dz rfl (fun K hK => ?_) ?_
 ·go_simp;go_at_call 148
  refine AV.out.mono ?_;rintro e5 w5 ⟨rfl, rf, lA⟩;have oY := (show di X.drew r iG from mR.out).aU lA Am.out;obtain ⟨j0, j1, j2, j3, j4, j5, j6, j7⟩ := oY.z;obtain ⟨f0, f1, f2, f3, f4, f5, f6, f7⟩ := oY.f;first
   | refine hK.out _ _ ?_ (fun hHeld => ?_)
   | (go_wp2_with fail; refine hK.out _ _ ?_ (fun hHeld => ?_))
  ·(try dsimp only)
   exact eJ.out _ lA
  clear hK K;try simp only [Act.put, qA, qB, qC]
  refine acU (rs := [14]) (by kernel_rfl) (by simp) ?_;refine dz rfl (fun K hK => ?_) ?_
  ·go_simp;go_at_call 147
   refine (gV E1 _).mono ?_;rintro e6 w6 ⟨rfl, rfl⟩;first
    | refine hK.out _ _ ?_ (fun hHeld => ?_)
    | (go_wp2_with fail; refine hK.out _ _ ?_ (fun hHeld => ?_))
   ·(try dsimp only)
    exact eJ.out _ lA
   clear hK K;try simp only [Act.put, qA, qB, qC]
   refine acU (rs := [15]) (by kernel_rfl) (by simp) ?_;refine dz rfl (fun K hK => ?_) ?_
   ·go_simp;first
     | refine hK.out _ _ ?_ (fun hHeld => ?_)
     | (go_wp2_with fail; refine hK.out _ _ ?_ (fun hHeld => ?_))
    ·(try dsimp only)
     exact ⟨oX (eJ.out _ lA).1 Nq.out _ _ _ _ _ _ _ _, oX (eJ.out _ lA).2 Nq.out _ _ _ _ _ _ _ _⟩
    clear hK K;try simp only [Act.put, qA, qB, qC]
    refine ao 16 rfl ?_;refine adO (by kernel_rfl) ?_ _;go_wp2;have hst := cV (oY) ⟨0, ix, 0, 0, 0, 0, 0, 0⟩;have hcs := bT w5 r ⟨0, ix, 0, 0, 0, 0, 0, 0⟩;unfold kV at hst hcs;dsimp only at hst hcs;refine ac0 (v := .tuple #[.agg #[.int .i64 0, .int .i64 ix, .int .i64 0, .int .i64 0, .int .i64 0, .int .i64 0, .int .i64 0, .int .i64 0], rR E1]) (by
      generalize World.setCell (World.setCell (World.setCell (World.setCell (World.setCell (World.setCell (World.setCell (World.setCell w5 ⟨r, 0, none⟩ (.int .i64 0)) ⟨r, 1, none⟩ (.int .i64 ix)) ⟨r, 2, none⟩ (.int .i64 0)) ⟨r, 3, none⟩ (.int .i64 0)) ⟨r, 4, none⟩ (.int .i64 0)) ⟨r, 5, none⟩ (.int .i64 0)) ⟨r, 6, none⟩ (.int .i64 0)) ⟨r, 7, none⟩ (.int .i64 0) = W9 at hst ⊢;obtain ⟨m0, m1, m2, m3, m4, m5, m6, m7⟩ := hst.z;dsimp only at m0 m1 m2 m3 m4 m5 m6 m7;simp [results, ae3, go_sem, m0, m1, m2, m3, m4, m5, m6, m7]) rfl ?_
    have eZ := (jE.out.drewN 1).tab rf lA;rw [← Nt.out.1] at eZ;refine ⟨by rw [← Nt.out.1, ← Nt.out.2]; rfl, P, ?_⟩;exact fV.box HM.out.er (eZ.from (HX.out.trans ((ag X 1).mono HX.out.size))) hcs (by have := b_.out; omega) (fun hk => by have := b_.out.2.2.2 r hk; omega)
   exact acR
  exact acR
 exact acR
theorem Ku {w : World} {P : Pm} {m : Mp} (h : dc w P m) {v : Value} {l : List UInt8} (hv : By w v l) (hl : l.length ≤ 1100000) {se sq a : Int} {sp : List Sp} {vo : List Int} (hg : jY l = some ⟨3, se, sq, a, sp, vo⟩) : Calls prog 111 #[.pointer (some ⟨P.gi, 0, none⟩), v] w (yN w P (jX m (some ⟨3, se, sq, a, sp, vo⟩))) := by
 obtain ⟨p, n, c, rfl⟩ := hv.sl;have hA := (acG w.heap.size w).alloc (acE _) (.cells #[.int .i64 0, .int .i64 0, .int .i64 0, .int .i64 0, .int .i64 0, .int .i64 0, .int .i64 0, .int .i64 0] 66);have GT := af (ja (hv.below hA) hl);rw [hg] at GT;have HR := af (di.new w iG);have HA := af hA;have HM := af h;have fh := af (gD hg).1;have vp := h.row.lt;clear h hv hl hg hA;go_enter afm, afj
 go_wp2_with fail
 refine GT.out.mono ?_;rintro e w1 ⟨ps, ns, ds, pv, nv, dv, rfl, q_, fj, aK⟩;unfold pW;dsimp only;have aS := af (HA.out.trans (aK.mono HA.out.size));have eO := HR.out.below aK;have hB := (acG w1.heap.size w1).alloc (acE _) (.cells #[.int .i64 3, .int .i64 se, .int .i64 sq, .int .i64 a, .slice ps ns ds, .slice pv nv dv] 25);have jb := (q_.below hB)
 have jc := (fj.below hB)
 have kt : w.heap.size < w1.heap.size := eO.lt;go_upto_region 2 with fail
 obtain ⟨X, hX⟩ : ∃ X, w1.alloc (.cells #[.int .i64 3, .int .i64 se, .int .i64 sq, .int .i64 a, .slice ps ns ds, .slice pv nv dv] 25) = X := ⟨_, rfl⟩
 have hb := bk.new (k := 3) (se := se) (sq := sq) (a := a) (vs := .slice ps ns ds) (vv := .slice pv nv dv) w1;rw [hX] at hb hB jb jc;obtain ⟨b, eS⟩ : ∃ b, w1.heap.size = b := ⟨_, rfl⟩
 obtain ⟨r, cT⟩ : ∃ r, w.heap.size = r := ⟨_, rfl⟩
 have HX := af (aS.out.trans (hB.mono aS.out.size));have jB := HM.out.below HX.out;have nG := eO.below hB;rw [cT] at nG;rw [eS] at hb;have b_ : Hid (r < b ∧ w.heap.size = r ∧ P.gi < r ∧ (∀ k, kU P k → k < r)) := af ⟨by omega, cT, by omega, fun k hk => by have := HM.out.lt k hk; omega⟩;have U4 : Hid (aI r X (.slice ps ns ds) sp) := af (by rw [← cT]; exact jb.mono HA.out.size);have vq : Hid (bJ (r + 1) X (.slice pv nv dv) vo) := af (jc.mono (by simp; omega));have jE := af jB;have mR := af nG;have dH := af hb;obtain ⟨x0, x1, x2, x3, x4, x5⟩ := hb.box;have z0 := jB.row.c0;have z1 := jB.row.c1;have z2 := jB.row.c2;rw [hX, eS, cT];clear hX eS cT q_ fj aK eO hB jb jc kt hb jB nG aS HR GT vp;have AV := af (sT (w := X.drew) (jE.out.tb.below (ag X 1)) a);obtain ⟨N1, Sg⟩ : ∃ e : Int, (m.L.length : Int) - (vX m.L a).length = e := ⟨_, rfl⟩
 rw [Sg] at AV;have Wk := af Sg;have eJ : Hid (∀ U, ak X.drew U (fun k => k = P.bt) → U.cell? ⟨P.gi, 1, none⟩ = some (.pointer (some ⟨P.gt, 0, none⟩)) ∧ U.cell? ⟨b, 3, none⟩ = some (.int .i64 a)) := af fun U hU => ⟨hU.cell jE.out.row.c1 jE.out.a2.2, hU.cell dH.out.box.2.2.2.1 (fun (e : b = P.bt) => by have := b_.out.2.2.2 P.bt (.inr (.inr (.inl rfl))); have := b_.out.1; omega)⟩
 have Qq : Hid (¬ r = P.bt) := af (fun e => by have := b_.out.2.2.2 P.bt (.inr (.inr (.inl rfl))); omega);have Nq : Hid (P.gi ≠ r ∧ b ≠ r) := af (by have := b_.out.2.2.1; have := b_.out.1; omega);clear Sg x1 x2 x4 x5;go_upto_region 10 with fail
 refine ado (S := (fun U => U.cell? ⟨P.gi, 1, none⟩ = some (.pointer (some ⟨P.gt, 0, none⟩)) ∧ U.cell? ⟨b, 3, none⟩ = some (.int .i64 a))) (by kernel_rfl) ?_ (fun hHeld => ?_)
 ·(try dsimp only)
  exact eJ.out _ (ak.refl _ _)
 refine ao 0 rfl ?_;refine ao 1 rfl ?_;refine ao 2 rfl ?_;refine ao 3 rfl ?_;refine ao 4 rfl ?_;refine ao 5 rfl ?_;refine acU (rs := [6]) (by kernel_rfl) (by simp) ?_;refine dz rfl (fun K hK => ?_) ?_
 ·go_simp;go_at_call 150
  refine AV.out.mono ?_;rintro e5 w5 ⟨rfl, rf, lA⟩;have oY := (show di X.drew r iG from mR.out).aU lA Qq.out;obtain ⟨j0, j1, j2, j3, j4, j5, j6, j7⟩ := oY.z;obtain ⟨f0, f1, f2, f3, f4, f5, f6, f7⟩ := oY.f;first
   | refine hK.out _ _ ?_ (fun hHeld => ?_)
   | (go_wp2_with fail; refine hK.out _ _ ?_ (fun hHeld => ?_))
  ·(try dsimp only)
   exact eJ.out _ lA
  clear hK K;try simp only [Act.put, qA, qB, qC]
  refine ao 7 rfl ?_;refine acU (rs := [8]) (by kernel_rfl) (by simp) ?_;refine dz rfl (fun K hK => ?_) ?_
  ·go_simp;first
    | refine hK.out _ _ ?_ (fun hHeld => ?_)
    | (go_wp2_with fail; refine hK.out _ _ ?_ (fun hHeld => ?_))
   ·(try dsimp only)
    exact ⟨oX (eJ.out _ lA).1 Nq.out.1 _ _ _ _ _ _ _ _, oX (eJ.out _ lA).2 Nq.out.2 _ _ _ _ _ _ _ _⟩
   clear hK K;try simp only [Act.put, qA, qB, qC]
   refine ao 9 rfl ?_;refine adO (by kernel_rfl) ?_ _;go_wp2;have hst := cV (oY) ⟨0, 0, N1, 0, 0, 0, 0, 0⟩;have hcs := bT w5 r ⟨0, 0, N1, 0, 0, 0, 0, 0⟩;unfold kV at hst hcs;dsimp only at hst hcs;refine ac0 (v := .tuple #[.agg #[.int .i64 0, .int .i64 0, .int .i64 N1, .int .i64 0, .int .i64 0, .int .i64 0, .int .i64 0, .int .i64 0], .nilIface]) (by
     generalize World.setCell (World.setCell (World.setCell (World.setCell (World.setCell (World.setCell (World.setCell (World.setCell w5 ⟨r, 0, none⟩ (.int .i64 0)) ⟨r, 1, none⟩ (.int .i64 0)) ⟨r, 2, none⟩ (.int .i64 N1)) ⟨r, 3, none⟩ (.int .i64 0)) ⟨r, 4, none⟩ (.int .i64 0)) ⟨r, 5, none⟩ (.int .i64 0)) ⟨r, 6, none⟩ (.int .i64 0)) ⟨r, 7, none⟩ (.int .i64 0) = W9 at hst ⊢;obtain ⟨m0, m1, m2, m3, m4, m5, m6, m7⟩ := hst.z;dsimp only at m0 m1 m2 m3 m4 m5 m6 m7;simp [results, ae3, go_sem, m0, m1, m2, m3, m4, m5, m6, m7]) rfl ?_
   have eZ := (jE.out.drewN 1).tab rf lA;refine ⟨by rw [← Wk.out]; rfl, P, ?_⟩;refine fV.box HM.out.er (eZ.from (HX.out.trans ((ag X 1).mono HX.out.size))) hcs (by have := b_.out; omega) (fun hk => ?_);have := b_.out.2.2.2 r hk; omega
  exact acR
 exact acR
theorem Kv {w : World} {P : Pm} {m : Mp} (h : dc w P m) {v : Value} {l : List UInt8} (hv : By w v l) (hl : l.length ≤ 1100000) {se sq a : Int} {sp : List Sp} {vo : List Int} (hg : jY l = some ⟨4, se, sq, a, sp, vo⟩) : Calls prog 111 #[.pointer (some ⟨P.gi, 0, none⟩), v] w (yN w P (jX m (some ⟨4, se, sq, a, sp, vo⟩))) := by
 obtain ⟨p, n, c, rfl⟩ := hv.sl;have hA := (acG w.heap.size w).alloc (acE _) (.cells #[.int .i64 0, .int .i64 0, .int .i64 0, .int .i64 0, .int .i64 0, .int .i64 0, .int .i64 0, .int .i64 0] 66);have GT := af (ja (hv.below hA) hl);rw [hg] at GT;have HR := af (di.new w iG);have HA := af hA;have HM := af h;have fh := af (gD hg).1;have vp := h.row.lt;clear h hv hl hg hA;go_enter afm, afj
 go_wp2_with fail
 refine GT.out.mono ?_;rintro e w1 ⟨ps, ns, ds, pv, nv, dv, rfl, q_, fj, aK⟩;unfold pW;dsimp only;have aS := af (HA.out.trans (aK.mono HA.out.size));have eO := HR.out.below aK;have hB := (acG w1.heap.size w1).alloc (acE _) (.cells #[.int .i64 4, .int .i64 se, .int .i64 sq, .int .i64 a, .slice ps ns ds, .slice pv nv dv] 25);have jb := (q_.below hB)
 have jc := (fj.below hB)
 have kt : w.heap.size < w1.heap.size := eO.lt;go_upto_region 2 with fail
 obtain ⟨X, hX⟩ : ∃ X, w1.alloc (.cells #[.int .i64 4, .int .i64 se, .int .i64 sq, .int .i64 a, .slice ps ns ds, .slice pv nv dv] 25) = X := ⟨_, rfl⟩
 have hb := bk.new (k := 4) (se := se) (sq := sq) (a := a) (vs := .slice ps ns ds) (vv := .slice pv nv dv) w1;rw [hX] at hb hB jb jc;obtain ⟨b, eS⟩ : ∃ b, w1.heap.size = b := ⟨_, rfl⟩
 obtain ⟨r, cT⟩ : ∃ r, w.heap.size = r := ⟨_, rfl⟩
 have HX := af (aS.out.trans (hB.mono aS.out.size));have jB := HM.out.below HX.out;have nG := eO.below hB;rw [cT] at nG;rw [eS] at hb;have b_ : Hid (r < b ∧ w.heap.size = r ∧ P.gi < r ∧ (∀ k, kU P k → k < r)) := af ⟨by omega, cT, by omega, fun k hk => by have := HM.out.lt k hk; omega⟩;have U4 : Hid (aI r X (.slice ps ns ds) sp) := af (by rw [← cT]; exact jb.mono HA.out.size);have vq : Hid (bJ (r + 1) X (.slice pv nv dv) vo) := af (jc.mono (by simp; omega));have jE := af jB;have mR := af nG;have dH := af hb;obtain ⟨x0, x1, x2, x3, x4, x5⟩ := hb.box;have z0 := jB.row.c0;have z1 := jB.row.c1;have z2 := jB.row.c2;rw [hX, eS, cT];clear hX eS cT q_ fj aK eO hB jb jc kt hb jB nG aS HR GT vp;have AV := af (AW (w := X.drew) (jE.out.so.drewN 1) a);obtain ⟨N1, Sg⟩ : ∃ e : Int, (P.R.length : Int) - (qg P.R a).length = e := ⟨_, rfl⟩
 unfold FL at AV;rw [Sg] at AV;have Wk : Hid ((m.S.length : Int) - (sS m.S a).length = N1) := af (by
  rw [← HM.out.pl, ← yP, adv, adv];exact Sg)
 have eJ : Hid (∀ U, ak X.drew U (vm P.bm P.R) → U.cell? ⟨P.gi, 0, none⟩ = some (.pointer (some ⟨P.gs, 0, none⟩)) ∧ U.cell? ⟨b, 3, none⟩ = some (.int .i64 a)) := af fun U hU => ⟨(jE.out.so.drewN 1).keep hU jE.out.row.c0, (jE.out.so.drewN 1).keep hU dH.out.box.2.2.2.1⟩
 have Qq : Hid (¬ vm P.bm P.R r) := af (fun e => by have := b_.out.2.2.2 r (.inr (.inr (.inr (.inl e.sub)))); omega);have Nq : Hid (P.gi ≠ r ∧ b ≠ r) := af (by have := b_.out.2.2.1; have := b_.out.1; omega);clear Sg x1 x2 x4 x5;go_upto_region 12 with fail
 refine ado (S := (fun U => U.cell? ⟨P.gi, 0, none⟩ = some (.pointer (some ⟨P.gs, 0, none⟩)) ∧ U.cell? ⟨b, 3, none⟩ = some (.int .i64 a))) (by kernel_rfl) ?_ (fun hHeld => ?_)
 ·(try dsimp only)
  exact eJ.out _ (ak.refl _ _)
 refine ao 0 rfl ?_;refine ao 1 rfl ?_;refine ao 2 rfl ?_;refine ao 3 rfl ?_;refine ao 4 rfl ?_;refine ao 5 rfl ?_;refine acU (rs := [6]) (by kernel_rfl) (by simp) ?_;refine dz rfl (fun K hK => ?_) ?_
 ·go_simp;go_at_call 151
  refine AV.out.mono ?_;rintro e5 w5 ⟨rfl, rf⟩;have lA := rf.aU;have oY := (show di X.drew r iG from mR.out).aU lA Qq.out;obtain ⟨j0, j1, j2, j3, j4, j5, j6, j7⟩ := oY.z;obtain ⟨f0, f1, f2, f3, f4, f5, f6, f7⟩ := oY.f;first
   | refine hK.out _ _ ?_ (fun hHeld => ?_)
   | (go_wp2_with fail; refine hK.out _ _ ?_ (fun hHeld => ?_))
  ·(try dsimp only)
   exact eJ.out _ lA
  clear hK K;try simp only [Act.put, qA, qB, qC]
  refine ao 7 rfl ?_;refine acU (rs := [8]) (by kernel_rfl) (by simp) ?_;refine dz rfl (fun K hK => ?_) ?_
  ·go_simp;first
    | refine hK.out _ _ ?_ (fun hHeld => ?_)
    | (go_wp2_with fail; refine hK.out _ _ ?_ (fun hHeld => ?_))
   ·(try dsimp only)
    exact ⟨oX (eJ.out _ lA).1 Nq.out.1 _ _ _ _ _ _ _ _, oX (eJ.out _ lA).2 Nq.out.2 _ _ _ _ _ _ _ _⟩
   clear hK K;try simp only [Act.put, qA, qB, qC]
   refine ao 9 rfl ?_;refine adO (by kernel_rfl) ?_ _;go_wp2;have hst := cV (oY) ⟨0, 0, N1, 0, 0, 0, 0, 0⟩;have hcs := bT w5 r ⟨0, 0, N1, 0, 0, 0, 0, 0⟩;unfold kV at hst hcs;dsimp only at hst hcs;refine ac0 (v := .tuple #[.agg #[.int .i64 0, .int .i64 0, .int .i64 N1, .int .i64 0, .int .i64 0, .int .i64 0, .int .i64 0, .int .i64 0], .nilIface]) (by
     generalize World.setCell (World.setCell (World.setCell (World.setCell (World.setCell (World.setCell (World.setCell (World.setCell w5 ⟨r, 0, none⟩ (.int .i64 0)) ⟨r, 1, none⟩ (.int .i64 0)) ⟨r, 2, none⟩ (.int .i64 N1)) ⟨r, 3, none⟩ (.int .i64 0)) ⟨r, 4, none⟩ (.int .i64 0)) ⟨r, 5, none⟩ (.int .i64 0)) ⟨r, 6, none⟩ (.int .i64 0)) ⟨r, 7, none⟩ (.int .i64 0) = W9 at hst ⊢;obtain ⟨m0, m1, m2, m3, m4, m5, m6, m7⟩ := hst.z;dsimp only at m0 m1 m2 m3 m4 m5 m6 m7;simp [results, ae3, go_sem, m0, m1, m2, m3, m4, m5, m6, m7]) rfl ?_
   have eZ := (jE.out.drewN 1).U3 (S' := sS m.S a) (R' := qg P.R a) (by have h1 := rf; rw [jE.out.pl] at h1; exact h1);refine ⟨by rw [← Wk.out]; rfl, { P with R := qg P.R a }, ?_⟩;refine fV.box HM.out.er (eZ.from (HX.out.trans ((ag X 1).mono HX.out.size))) hcs (by have := b_.out; omega) (fun hk => ?_);rcases eZ.new r hk with e | e
   ·have := b_.out.2.2.2 r e; omega
   ·have h1 := mR.out.lt; have h2 : (X.drewN 1).heap.size = X.heap.size := rfl; omega
  exact acR
 exact acR
theorem Kw {w : World} {P : Pm} {m : Mp} (h : dc w P m) {v : Value} {l : List UInt8} (hv : By w v l) (hl : l.length ≤ 1100000) {se sq a : Int} {sp : List Sp} {vo : List Int} (hg : jY l = some ⟨5, se, sq, a, sp, vo⟩) : Calls prog 111 #[.pointer (some ⟨P.gi, 0, none⟩), v] w (yN w P (jX m (some ⟨5, se, sq, a, sp, vo⟩))) := by
 obtain ⟨p, n, c, rfl⟩ := hv.sl;have hA := (acG w.heap.size w).alloc (acE _) (.cells #[.int .i64 0, .int .i64 0, .int .i64 0, .int .i64 0, .int .i64 0, .int .i64 0, .int .i64 0, .int .i64 0] 66);have GT := af (ja (hv.below hA) hl);rw [hg] at GT;have HR := af (di.new w iG);have HA := af hA;have HM := af h;have fh := af (gD hg).1;have vp := h.row.lt;clear h hv hl hg hA;go_enter afm, afj
 go_wp2_with fail
 refine GT.out.mono ?_;rintro e w1 ⟨ps, ns, ds, pv, nv, dv, rfl, q_, fj, aK⟩;unfold pW;dsimp only;have aS := af (HA.out.trans (aK.mono HA.out.size));have eO := HR.out.below aK;have hB := (acG w1.heap.size w1).alloc (acE _) (.cells #[.int .i64 5, .int .i64 se, .int .i64 sq, .int .i64 a, .slice ps ns ds, .slice pv nv dv] 25);have jb := (q_.below hB)
 have jc := (fj.below hB)
 have kt : w.heap.size < w1.heap.size := eO.lt;go_upto_region 2 with fail
 obtain ⟨X, hX⟩ : ∃ X, w1.alloc (.cells #[.int .i64 5, .int .i64 se, .int .i64 sq, .int .i64 a, .slice ps ns ds, .slice pv nv dv] 25) = X := ⟨_, rfl⟩
 have hb := bk.new (k := 5) (se := se) (sq := sq) (a := a) (vs := .slice ps ns ds) (vv := .slice pv nv dv) w1;rw [hX] at hb hB jb jc;obtain ⟨b, eS⟩ : ∃ b, w1.heap.size = b := ⟨_, rfl⟩
 obtain ⟨r, cT⟩ : ∃ r, w.heap.size = r := ⟨_, rfl⟩
 have HX := af (aS.out.trans (hB.mono aS.out.size));have jB := HM.out.below HX.out;have nG := eO.below hB;rw [cT] at nG;rw [eS] at hb;have b_ : Hid (r < b ∧ w.heap.size = r ∧ P.gi < r ∧ (∀ k, kU P k → k < r)) := af ⟨by omega, cT, by omega, fun k hk => by have := HM.out.lt k hk; omega⟩;have U4 : Hid (aI r X (.slice ps ns ds) sp) := af (by rw [← cT]; exact jb.mono HA.out.size);have vq : Hid (bJ (r + 1) X (.slice pv nv dv) vo) := af (jc.mono (by simp; omega));have jE := af jB;have mR := af nG;have dH := af hb;obtain ⟨x0, x1, x2, x3, x4, x5⟩ := hb.box;have z0 := jB.row.c0;have z1 := jB.row.c1;have z2 := jB.row.c2;rw [hX, eS, cT];clear hX eS cT q_ fj aK eO hB jb jc kt hb jB nG aS HR GT vp;have sB : lU vo = true := by
  have h1 := fh.out;unfold Cm.ok Cm.may at h1;simp at h1;exact h1.1
 have f4 := jE.out.row.fr 4;have z4 := jE.out.row.c4;obtain ⟨Y, hY⟩ : ∃ Y, X.setCell ⟨P.gi, 4, none⟩ (.slice pv nv dv) = Y := ⟨_, rfl⟩
 have df : ak X Y fun k => k = P.gi := by rw [← hY]; exact aC _ _ _ _
 have aM : iq Y { P with vv := .slice pv nv dv } { m with vo := vo } := by
  have h1 := jE.out.row;unfold iq at h1 ⊢;rw [← hY]
  show (X.setCell ⟨P.gi, 4, none⟩ (.slice pv nv dv)).heap[P.gi]? = _
  rw [acK X P.gi 4 _ 131 _ h1];rfl
 have Wm := jE.out.vot vq.out b_.out.2.2.2 sB df aM;have hry := mR.out.aU df (fun (e : r = P.gi) => by have := b_.out.2.2.1; omega);have HY := af (acD Wm df);have oO := af hry;clear sB df aM Wm hry z0 z1 z2 x1 x2 x3 x4;go_upto_region 15 with fail
 clear hY z4 f4;obtain ⟨j0, j1, j2, j3, j4, j5, j6, j7⟩ := (oO.out).z;obtain ⟨f0, f1, f2, f3, f4, f5, f6, f7⟩ := (oO.out).f;unfold iG at j0 j1 j2 j3 j4 j5 j6 j7;dsimp only at j0 j1 j2 j3 j4 j5 j6 j7;go_wp2_with fail
 have hst := cV (oO.out) ⟨0, 0, 0, 0, 0, 0, 0, 0⟩;have hcs := bT Y r ⟨0, 0, 0, 0, 0, 0, 0, 0⟩;unfold kV at hst hcs;dsimp only at hst hcs;refine ac0 (v := .tuple #[.agg #[.int .i64 0, .int .i64 0, .int .i64 0, .int .i64 0, .int .i64 0, .int .i64 0, .int .i64 0, .int .i64 0], .nilIface]) (by
   generalize World.setCell (World.setCell (World.setCell (World.setCell (World.setCell (World.setCell (World.setCell (World.setCell Y ⟨r, 0, none⟩ (.int .i64 0)) ⟨r, 1, none⟩ (.int .i64 0)) ⟨r, 2, none⟩ (.int .i64 0)) ⟨r, 3, none⟩ (.int .i64 0)) ⟨r, 4, none⟩ (.int .i64 0)) ⟨r, 5, none⟩ (.int .i64 0)) ⟨r, 6, none⟩ (.int .i64 0)) ⟨r, 7, none⟩ (.int .i64 0) = W9 at hst ⊢;obtain ⟨m0, m1, m2, m3, m4, m5, m6, m7⟩ := hst.z;dsimp only at m0 m1 m2 m3 m4 m5 m6 m7;simp [results, ae3, go_sem, m0, m1, m2, m3, m4, m5, m6, m7]) rfl ?_
 have eZ : fV w Y P { P with vv := .slice pv nv dv } { m with vo := vo } := ⟨HY.out.1, rfl, (ak.of_below HX.out (Dz P)).trans (HY.out.2.mono (S' := Dz P) (fun k e => .inl e)) (fun k e => .inl e), fun k hk => by
  rcases hk with e | e | e | e | e
  ·exact .inl (.inl e)
  ·exact .inl (.inr (.inl e))
  ·exact .inl (.inr (.inr (.inl e)))
  ·exact .inl (.inr (.inr (.inr (.inl e))))
  ·exact .inr (by have := (vq.out.lt k e).1; have := b_.out.2.1; omega)⟩
 refine ⟨rfl, { P with vv := .slice pv nv dv }, ?_⟩;refine fV.box HM.out.er eZ hcs (by have := b_.out; omega) (fun hk => ?_);rcases hk with e | e | e | e | e
 ·have := b_.out.2.2.2 r (.inl e); omega
 ·have := b_.out.2.2.2 r (.inr (.inl e)); omega
 ·have := b_.out.2.2.2 r (.inr (.inr (.inl e))); omega
 ·have := b_.out.2.2.2 r (.inr (.inr (.inr (.inl e)))); omega
 ·have := (vq.out.lt r e).1; omega
theorem Kx {w : World} {P : Pm} {m : Mp} (h : dc w P m) {v : Value} {l : List UInt8} (hv : By w v l) (hl : l.length ≤ 1100000) (hg : jY l = none) : Calls prog 111 #[.pointer (some ⟨P.gi, 0, none⟩), v] w (yN w P (jX m none)) := by
 obtain ⟨p, n, c, rfl⟩ := hv.sl;have hA := (acG w.heap.size w).alloc (acE _) (.cells #[.int .i64 0, .int .i64 0, .int .i64 0, .int .i64 0, .int .i64 0, .int .i64 0, .int .i64 0, .int .i64 0] 66);have GT := af (ja (hv.below hA) hl);rw [hg] at GT;have HR := af (di.new w iG);have HA := af hA;have HM := af h;clear h hv hl hg hA;go_enter afm, afj
 go_wp2_with fail
 refine GT.out.mono ?_;rintro e w1 ⟨rfl, aK⟩;unfold pW cm0;dsimp only;have aS := af (HA.out.trans (aK.mono HA.out.size));have eO := HR.out.below aK;have hB := (acG w1.heap.size w1).alloc (acE _) (.cells #[.int .i64 0, .int .i64 0, .int .i64 0, .int .i64 0, .slice none 0 0, .slice none 0 0] 25);go_upto_region 3 with fail
 obtain ⟨X, hX⟩ : ∃ X, w1.alloc (.cells #[.int .i64 0, .int .i64 0, .int .i64 0, .int .i64 0, .slice none 0 0, .slice none 0 0] 25) = X := ⟨_, rfl⟩
 rw [hX] at hB;obtain ⟨r, cT⟩ : ∃ r, w.heap.size = r := ⟨_, rfl⟩
 have HX := af (aS.out.trans (hB.mono aS.out.size));have nG := eO.below hB;rw [cT] at nG;have b_ : Hid (w.heap.size = r ∧ (∀ k, kU P k → k < r)) := af ⟨cT, fun k hk => by have := HM.out.lt k hk; omega⟩;have mR := af nG;obtain ⟨b, eS⟩ : ∃ b, w1.heap.size = b := ⟨_, rfl⟩
 rw [hX, cT, eS];clear hX cT eS aK eO hB nG aS HR GT;obtain ⟨j0, j1, j2, j3, j4, j5, j6, j7⟩ := (mR.out).z;obtain ⟨f0, f1, f2, f3, f4, f5, f6, f7⟩ := (mR.out).f;unfold iG at j0 j1 j2 j3 j4 j5 j6 j7;dsimp only at j0 j1 j2 j3 j4 j5 j6 j7;go_wp2_with fail
 refine (gV 90 _).mono ?_;rintro e w2 ⟨rfl, rfl⟩;go_wp2_with fail
 have hst := cV (mR.out) ⟨0, 0, 0, 0, 0, 0, 0, 0⟩;have hcs := bT X r ⟨0, 0, 0, 0, 0, 0, 0, 0⟩;unfold kV at hst hcs;dsimp only at hst hcs;refine ac0 (v := .tuple #[.agg #[.int .i64 0, .int .i64 0, .int .i64 0, .int .i64 0, .int .i64 0, .int .i64 0, .int .i64 0, .int .i64 0], rR 90]) (by
   generalize World.setCell (World.setCell (World.setCell (World.setCell (World.setCell (World.setCell (World.setCell (World.setCell X ⟨r, 0, none⟩ (.int .i64 0)) ⟨r, 1, none⟩ (.int .i64 0)) ⟨r, 2, none⟩ (.int .i64 0)) ⟨r, 3, none⟩ (.int .i64 0)) ⟨r, 4, none⟩ (.int .i64 0)) ⟨r, 5, none⟩ (.int .i64 0)) ⟨r, 6, none⟩ (.int .i64 0)) ⟨r, 7, none⟩ (.int .i64 0) = W9 at hst ⊢;obtain ⟨m0, m1, m2, m3, m4, m5, m6, m7⟩ := hst.z;dsimp only at m0 m1 m2 m3 m4 m5 m6 m7;simp [results, ae3, go_sem, m0, m1, m2, m3, m4, m5, m6, m7]) rfl ?_
 exact ⟨rfl, P, (HM.out.toB HX.out).box HM.out.er hcs (by have := b_.out; omega) (fun hk => by have := b_.out.2 r hk; omega)⟩
end Go.Proofs.YtionbmlicmibgaaGreatDoor
