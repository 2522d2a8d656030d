import Derived.Test.YtgbdjcekpdfpjaaGreatDoorVrRead
import Derived.Test.YtgbdjcekpdfpjaaGreatDoorVrName
import Derived.Test.YtgbdjcekpdfpjaaGreatDoorVrOp0
import Derived.Test.YtgbdjcekpdfpjaaGreatDoorRdCalls
import Derived.Deep.RegionHeld3
set_option linter.unusedVariables false
set_option linter.unusedSimpArgs false
namespace Go.Proofs.YtgbdjcekpdfpjaaGreatDoor
open Go.RowKit
def rvC (x : Nat) (S : Sn) (vo da : Value) : Array Value := #[.pointer (some ⟨x, 0, none⟩), .int .i64 S.ix, .int .i64 S.tm, vo, da, .bool (decide (0 < S.ix))]
structure RvAt (w : World) (xb x : Nat) (S : Sn) (vo da : Value) : Prop where
 row : w.heap[xb]? = some (.cells (rvC x S vo da) 102 (0, 0))
 ns : Ns w vo S.vo
 by_ : By w da S.da
 f0 : Go.Proofs.YtgbdjcekpdfpjaaGreatDoor.fits S.ix
 f1 : Go.Proofs.YtgbdjcekpdfpjaaGreatDoor.fits S.tm
section
variable {w : World} {xb x : Nat} {S : Sn} {vo da : Value}
theorem RvAt.lt (h : RvAt w xb x S vo da) : xb < w.heap.size := (Array.getElem?_eq_some_iff.1 h.row).1
theorem RvAt.c1 (h : RvAt w xb x S vo da) : w.cell? ⟨xb, 1, none⟩ = some (.int .i64 S.ix) := by rw [cell_of_row w xb 1 _ 102 (0, 0) h.row]; rfl
theorem RvAt.c2 (h : RvAt w xb x S vo da) : w.cell? ⟨xb, 2, none⟩ = some (.int .i64 S.tm) := by rw [cell_of_row w xb 2 _ 102 (0, 0) h.row]; rfl
theorem RvAt.c3 (h : RvAt w xb x S vo da) : w.cell? ⟨xb, 3, none⟩ = some vo := by rw [cell_of_row w xb 3 _ 102 (0, 0) h.row]; rfl
theorem RvAt.c4 (h : RvAt w xb x S vo da) : w.cell? ⟨xb, 4, none⟩ = some da := by rw [cell_of_row w xb 4 _ 102 (0, 0) h.row]; rfl
theorem RvAt.c5 (h : RvAt w xb x S vo da) : w.cell? ⟨xb, 5, none⟩ = some (.bool (decide (0 < S.ix))) := by rw [cell_of_row w xb 5 _ 102 (0, 0) h.row]; rfl
theorem RvAt.fr (h : RvAt w xb x S vo da) (i : Nat) : w.frozen? ⟨xb, i, none⟩ = false := frozen_of_row w xb i _ 102 h.row
theorem RvAt.chg {w' : World} {T : Nat → Prop} (h : RvAt w xb x S vo da) (hc : Chg w w' T) (hx : ¬ T xb) (hv : S.vo = [] ∨ ∀ k, vo.ownBlock = some k → ¬ T k) (hd : S.da = [] ∨ ∀ k, da.ownBlock = some k → ¬ T k) : RvAt w' xb x S vo da :=
 ⟨(hc.block xb h.lt hx).trans h.row, h.ns.chg hc hv, h.by_.chg hc hd, h.f0, h.f1⟩
end
theorem chg_below {w w' : World} (h : Chg w w' (fun _ => False)) : Below w.heap.size w w' := Chg.to_below (Below.refl _ _) h fun k e => e.elim
theorem row_names {w : World} {B n : Nat} {v : Value} {ns : List (List UInt8)} (h : w.ownsRow B 9 1 v n (ns.map encStr)) (hn : n = ns.length) : ∃ p c, v = .slice p ns.length c ∧ ∀ (k : Nat) x, ns[k]? = some x → ∃ g, p = some ⟨g, 0, none⟩ ∧ B ≤ g ∧ w.cell? ⟨g, k, none⟩ = some (.string (str x)) := by
 subst hn
 rcases h.2 with ⟨rfl, h0⟩ | ⟨g, cap, cur, rfl, hB, _⟩
 ·exact ⟨none, 0, by rw [h0], fun k x hk => by have := (List.getElem?_eq_some_iff.1 hk).1; omega⟩
 ·refine ⟨some ⟨g, 0, none⟩, cap, rfl, fun k x hk => ⟨g, rfl, hB, ?_⟩⟩
  have := h.cells (g := g) rfl k (encStr x) (by rw [List.getElem?_map, hk]; rfl)
  rw [add_lit0, Nat.zero_add] at this
  rw [str_eq]
  exact this
structure OpI (w wr : World) (Z R : Nat → Prop) (x xb : Nat) (t : Dk) (S : Sn) (vo da : Value) : Prop where
 rq : Rq wr (fun i => Z i ∨ i = xb) R x t
 xl : xb = w.heap.size
 row : wr.heap[xb]? = some (.cells (rvC x S vo da) 102 (0, 0))
 vo : OwnN (w.heap.size + 1) wr vo S.vo
 da : Own (w.heap.size + 1) wr da S.da
 f0 : Go.Proofs.YtgbdjcekpdfpjaaGreatDoor.fits S.ix
 f1 : Go.Proofs.YtgbdjcekpdfpjaaGreatDoor.fits S.tm
 bw : Below w.heap.size w wr
section
variable {w wr : World} {Z R : Nat → Prop} {x xb : Nat} {t : Dk} {S : Sn} {vo da : Value}
theorem OpI.lt (h : OpI w wr Z R x xb t S vo da) : xb < wr.heap.size := (Array.getElem?_eq_some_iff.1 h.row).1
theorem OpI.at (h : OpI w wr Z R x xb t S vo da) {w' : World} (hb : Below wr.heap.size wr w') : OpI w w' Z R x xb t S vo da :=
 ⟨h.rq.at (Chg.of_below hb _), h.xl, (hb.block xb h.lt).trans h.row, h.vo.below hb, h.da.below hb, h.f0, h.f1, h.bw.trans (hb.mono h.bw.size)⟩
theorem OpI.rv (h : OpI w wr Z R x xb t S vo da) : RvAt wr xb x S vo da := ⟨h.row, h.vo.ns, h.da.by_, h.f0, h.f1⟩
theorem OpI.set (h : OpI w wr Z R x xb t S vo da) {S' : Sn} {vo' da' : Value} {w' : World} (hc : Chg wr w' (fun k => k = xb)) (hrow : w'.heap[xb]? = some (.cells (rvC x S' vo' da') 102 (0, 0)))
  (hv : OwnN (w.heap.size + 1) wr vo' S'.vo) (hd : Own (w.heap.size + 1) wr da' S'.da) (f0 : Go.Proofs.YtgbdjcekpdfpjaaGreatDoor.fits S'.ix) (f1 : Go.Proofs.YtgbdjcekpdfpjaaGreatDoor.fits S'.tm) : OpI w w' Z R x xb t S' vo' da' := by
 have hxl := h.xl
 have hg : ∀ k, Value.ownBlock vo' = some k → ¬ k = xb := fun k hk e => by have := (hv.lt k hk).1; omega
 refine ⟨⟨h.rq.is_.chg hc (fun i e => .inr e) fun i hi => .inl hi, h.rq.ok, h.rq.cl⟩, h.xl, hrow, ⟨row_chg hv.1 hc hg, hv.2⟩, ?_, f0, f1, Chg.to_below h.bw hc fun k e => by omega⟩
 rcases hd with e | ⟨gj, cap, e1, hB, k1, k2, k3, k4, k5⟩
 ·exact .inl e
 ·refine .inr ⟨gj, cap, e1, hB, k1, k2, fun i y hy => hc.cell (k3 i y hy) (fun e => by dsimp only at e; omega), fun i hi => ?_, fun i hi => ?_⟩
  ·obtain ⟨u, hu⟩ := Option.isSome_iff_exists.1 (k4 i hi)
   rw [hc.cell hu (fun e => by dsimp only at e; omega)]; rfl
  ·obtain ⟨u, hu⟩ := Option.isSome_iff_exists.1 (k4 i hi)
   have e : w'.frozen? ⟨gj, i, none⟩ = wr.frozen? ⟨gj, i, none⟩ := by
    unfold World.frozen?
    rw [hc.block gj (lt_of_cell hu) (fun e => by omega)]
   rw [e]; exact k5 i hi
end
theorem set_rv {W : World} {xb x : Nat} {S S' : Sn} {vo da vo' da' : Value} (h : W.heap[xb]? = some (.cells (rvC x S vo da) 102 (0, 0))) (hp : 0 < S'.ix) :
  (((((W.setCell ⟨xb, 1, none⟩ (.int .i64 S'.ix)).setCell ⟨xb, 2, none⟩ (.int .i64 S'.tm)).setCell ⟨xb, 3, none⟩ vo').setCell ⟨xb, 4, none⟩ da').setCell ⟨xb, 5, none⟩ (.bool true)).heap[xb]? = some (.cells (rvC x S' vo' da') 102 (0, 0)) ∧
  Chg W (((((W.setCell ⟨xb, 1, none⟩ (.int .i64 S'.ix)).setCell ⟨xb, 2, none⟩ (.int .i64 S'.tm)).setCell ⟨xb, 3, none⟩ vo').setCell ⟨xb, 4, none⟩ da').setCell ⟨xb, 5, none⟩ (.bool true)) (fun k => k = xb) := by
 have hs : ∀ (X : World) (i : Nat) (y : Value), Chg X (X.setCell ⟨xb, i, none⟩ y) (fun k => k = xb) := fun X i y => Chg.of_grown (grown_set _ _ _ _) _ fun k hk => .inl (by injection hk with hk; exact hk.symm)
 unfold rvC at h ⊢
 have h1 := heap_setCell_same W xb 1 _ _ (.int .i64 S'.ix) h
 have h2 := heap_setCell_same _ xb 2 _ _ (.int .i64 S'.tm) h1
 have h3 := heap_setCell_same _ xb 3 _ _ vo' h2
 have h4 := heap_setCell_same _ xb 4 _ _ da' h3
 have h5 := heap_setCell_same _ xb 5 _ _ (.bool true) h4
 simp only [List.setIfInBounds_toArray, List.set_cons_succ, List.set_cons_zero] at h5
 refine ⟨by rw [h5, decide_eq_true hp], (((hs _ _ _).then (hs _ _ _) (fun k h => .inl h)).then ((hs _ _ _).then (hs _ _ _) (fun k h => .inl h)) (fun k h => .inl h)).then (hs _ _ _) fun k h => .inl h⟩
def RoP (w : World) (Z R : Nat → Prop) (x : Nat) (t : Dk) (e : Ending) (w' : World) : Prop :=
 (t.openV.1 ≠ 0 ∧ e = .returned (.tuple #[.pointer none, .int .i64 (t.openV.1 : Nat)]) ∧ RPost w Z R x t.openV.2 w') ∨
 (t.openV.1 = 0 ∧ ∃ xb vo da R', e = .returned (.tuple #[.pointer (some ⟨xb, 0, none⟩), .int .i64 0]) ∧ RdIs w' Z R' x t.openV.2 ∧ Chg w w' R ∧ (∀ i, R' i → R i ∨ w.heap.size ≤ i) ∧ RvAt w' xb x t.found vo da ∧ w.heap.size ≤ xb ∧ ¬ R' xb ∧ Lies (fun k => w.heap.size ≤ k ∧ ¬ R' k ∧ k ≠ xb ∧ k < w'.heap.size) vo t.found.vo ∧ Lies (fun k => w.heap.size ≤ k ∧ ¬ R' k ∧ k ≠ xb ∧ k < w'.heap.size) da t.found.da)
set_option maxRecDepth 200000 in
set_option maxHeartbeats 64000000 in
theorem rvopen_any {w : World} {Z R : Nat → Prop} {x : Nat} {t : Dk} (h : Rq w Z R x t) {n U : Nat} (hf : t.Fine n U) (hn : n ≤ 800000) (hU : U ≤ 900000) : Calls Tryz.prog 16 #[.pointer (some ⟨x, 0, none⟩)] w (RoP w Z R x t) := by
 obtain ⟨W1, hW1⟩ : ∃ W1, w.alloc (.cells #[.pointer (some ⟨x, 0, none⟩), .int .i64 0, .int .i64 0, .slice none 0 0, .slice none 0 0, .bool false] 102) = W1 := ⟨_, rfl⟩
 have hb1 : Below w.heap.size w W1 := by rw [← hW1]; exact balloc (Below.refl _ _) _
 have hs1 : W1.heap.size = w.heap.size + 1 := by rw [← hW1]; simp
 obtain ⟨xb, hxb⟩ : ∃ xb, w.heap.size = xb := ⟨_, rfl⟩
 have HI : Hid (OpI w W1 Z R x xb t sn0 (.slice none 0 0) (.slice none 0 0)) := hide ⟨⟨h.is_.chg (Chg.of_below hb1 (fun _ => False)) (fun _ e => e.elim) (fun i hi => hi.imp id fun e => by omega), h.ok, h.cl⟩, hxb.symm, by rw [← hW1, ← hxb]; exact Array.getElem?_push_size, OwnN.nil _ _, Own.nil _ _, fits0, fits0, hb1⟩
 have HRZ := hide (And.intro h.is_.rap h.is_.zap)
 have HF := hide hf
 have HNU := hide (And.intro hn hU)
 have HXB := hide hxb
 have HRS := hide (show Rises t.seen from runs_rises h.ok.rises t.acts)
 have HW1 := hide hW1
 have HOK := hide h.ok
 have HLS := hide (rlist_any HI.out.rq)
 clear h hf hn hU hb1 hs1 hxb hW1
 obtain ⟨L, hL⟩ : ∃ L, t.names = L := ⟨_, rfl⟩
 have HL := hide hL
 have HLF := hide (show L.length ≤ 4096 from hL ▸ names_few HOK.out)
 have HLO := hide (show ∀ y ∈ L, okN y = true from fun y hy => HF.out.names (hL ▸ hy))
 rw [hL] at HLS
 obtain ⟨nl, hnl⟩ : ∃ nl, L.length = nl := ⟨_, rfl⟩
 have HNL := hide hnl
 clear hL
 go_enter Tryz.func16, Tryz.ntmps16
 go_wp2_with fail
 rw [HW1.out, HXB.out]
 refine HLS.out.mono ?_
 rintro e W2 ⟨v2, rfl, hrow2, hc2⟩
 rw [HNL.out] at hrow2
 obtain ⟨p2, c2, rfl, hcl2⟩ := row_names hrow2 HNL.out.symm
 have HI2 := hide (HI.out.at (chg_below hc2))
 have hsz2 := hc2.size
 have HRW2 := hide (fun (W : World) (T : Nat → Prop) (hW : Chg W2 W T) (hT : ∀ i, T i → i < W1.heap.size) k y (hk : L[k]? = some y) => (show ∃ g, p2 = some ⟨g, 0, none⟩ ∧ W.cell? ⟨g, k, none⟩ = some (.string (str y)) from by
  obtain ⟨g, e, hB, hc⟩ := hcl2 k y hk
  exact ⟨g, e, hW.cell hc fun ht => by have := hT _ ht; dsimp only at this; omega⟩))
 rw [HNL.out]
 have hl2 : nl ≤ 4096 := HNL.out ▸ HLF.out
 have HXW := hide (show xb < W1.heap.size from HI.out.lt)
 clear hrow2 hc2 hcl2 hnl HLS hsz2
 go_wp2_with fail
 go_loopw [6, 7, 8, 9, 10, 21] (fun _ _ _ _ _ i wr => ∃ j : Nat, j ≤ nl ∧ i = .int .i64 j ∧ Hid (∃ vo da, OpI w wr Z R x xb t (bestL t (L.take j)) vo da ∧ Chg W2 wr (fun k => k = xb))) (fun _ _ _ _ _ i _ => nl - (intOf i).toNat)
 case atStart => exact ⟨0, Nat.zero_le _, rfl, hide ⟨_, _, HI2.out, Chg.refl _ _⟩⟩
 case round =>
  obtain ⟨j, hj, rfl, hrel⟩ := hrel
  obtain ⟨vo, da, hI, hcr⟩ := hrel.out
  obtain ⟨S, hS⟩ : ∃ S, bestL t (L.take j) = S := ⟨_, rfl⟩
  rw [hS] at hI
  have HI3 := hide hI
  have HCR := hide hcr
  have HSS := hide hS
  clear hI hcr hrel hS HI2
  by_cases hjn : (j : Int) < (nl : Int)
  ·obtain ⟨nm, hnm⟩ : ∃ nm, L[j]? = some nm := ⟨_, List.getElem?_eq_getElem (by have := HNL.out; omega)⟩
   obtain ⟨g2, rfl, hcell⟩ := HRW2.out wr _ HCR.out (fun i e => by have := HXW.out; omega) j nm hnm
   have HNM := hide hnm
   have hon := HLO.out nm (List.mem_of_getElem? hnm)
   have hsz : (str nm).size ≤ maxLen := by have := okN_len hon; rw [str_size]; unfold maxLen; omega
   have HRD := hide (rread_any HI3.out.rq hsz)
   rw [str_list] at HRD
   have HBL := hide (show (t.readB nm).length ≤ 1000000 from by have := HF.out.read nm; have := HNU.out.2; omega)
   obtain ⟨B, hB⟩ : ∃ B, t.readB nm = B := ⟨_, rfl⟩
   unfold RReadPost at HRD
   rw [hB] at HRD HBL
   have HBB := hide hB
   clear hnm hon hsz hB
   go_wp2_with fail
   clear hcell
   refine HRD.out.mono ?_
   rintro e w3 ⟨p3, n3, c3, rfl, hby3, hc3⟩
   have HI4 := hide (HI3.out.at (chg_below hc3))
   have HC4 := hide (HCR.out.trans hc3 fun _ e => e.elim)
   have HR6 := hide (rread6_any hby3 HBL.out)
   clear hby3 hc3 HRD HI3 HCR
   go_wp2_with fail
   refine HR6.out.mono ?_
   rintro e w4 ⟨s, vs, ds, rfl, hov, hod, f0, f1, hb4, hrb⟩
   obtain ⟨pv, nv, cv, rfl⟩ := hov.ns.sl
   obtain ⟨pd, nd, cd, rfl⟩ := hod.by_.sl
   obtain ⟨F, hF⟩ : ∃ F, w4.alloc (.cells #[.int .i64 s.ix, .int .i64 s.tm, .slice pv nv cv, .slice pd nd cd] 42) = F := ⟨_, rfl⟩
   have hbF : Below w4.heap.size w4 F := by rw [← hF]; exact balloc (Below.refl _ _) _
   have hrF : F.heap[w4.heap.size]? = some (.cells #[.int .i64 s.ix, .int .i64 s.tm, .slice pv nv cv, .slice pd nd cd] 42 (0, 0)) := by rw [← hF]; exact Array.getElem?_push_size
   have hb3F := hb4.trans (hbF.mono hb4.size)
   have HIF := hide (HI4.out.at hb3F)
   have HCF := hide (HC4.out.trans (Chg.of_below hb3F (fun _ => False)) fun _ e => e.elim)
   have hw3 : w.heap.size + 1 ≤ w3.heap.size := by have := HI4.out.lt; have := HI4.out.xl; omega
   have HOV := hide (And.intro ((hov.below hbF).mono hw3) (And.intro ((hod.below hbF).mono hw3) (And.intro f0 f1)))
   have HRB := hide hrb
   have HRF := hide hrF
   have HGS := hide (show w4.heap.size ≠ xb from by have := HI4.out.lt; have := hb4.size; omega)
   have s0 : F.cell? ⟨w4.heap.size, 0, none⟩ = some (.int .i64 s.ix) := by rw [cell_of_row F _ 0 _ _ (0, 0) hrF]; rfl
   have y1 := HIF.out.rv.c1
   have y5 := HIF.out.rv.c5
   obtain ⟨ok, hok⟩ : ∃ ok, (readB 7 B).isSome = ok := ⟨_, rfl⟩
   obtain ⟨sb, hsb⟩ : ∃ sb, decide (0 < S.ix) = sb := ⟨_, rfl⟩
   rw [hok]
   rw [hsb] at y5
   have HOK2 := hide hok
   have HSB := hide hsb
   have HKF := hide (fun (W : World) (hW : Below F.heap.size F W) => (show W.cell? ⟨w4.heap.size, 0, none⟩ = some (.int .i64 s.ix) ∧ W.cell? ⟨xb, 1, none⟩ = some (.int .i64 S.ix) ∧ W.cell? ⟨xb, 5, none⟩ = some (.bool sb) from ⟨(hW.cell (lt_of_cell s0)).trans s0, (hW.cell (lt_of_cell y1)).trans y1, (hW.cell (lt_of_cell y5)).trans y5⟩))
   have HTK := hide (show bestL t (L.take (j + 1)) = newB t S nm from by rw [bestL_take HNM.out, HSS.out])
   clear hov hod hb4 hbF hrF hb3F f0 f1 hrb hok hsb hw3 s0 y1 y5 HI4 HC4 HR6
   go_wp2_with fail
   clear hF
   -- the cases of a file
   by_cases hiv : isV nm = true
   ·cases ok with
    | false =>
     have HNB : Hid (newB t S nm = S) := hide (by
      unfold newB stateL
      have hno : readB 7 B = none := by
       cases hr : readB 7 B with
       | none => rfl
       | some z => have := HOK2.out; rw [hr] at this; cases this
      rw [HBB.out, hno]
      rfl)
     have HIV := hide hiv
     clear hiv
     refine wp_region_held_drew (S := fun W => W.cell? ⟨w4.heap.size, 0, none⟩ = some (.int .i64 s.ix) ∧ W.cell? ⟨xb, 1, none⟩ = some (.int .i64 S.ix) ∧ W.cell? ⟨xb, 5, none⟩ = some (.bool sb)) (by kernel_rfl) ?_ (fun hHeld => ?_)
     ·(try dsimp only)
      exact HKF.out _ (below_drewN (Below.refl F.heap.size F) 1)
     refine tkL 0 rfl ?_
     refine wpAnyH_ready (rs := [1]) (by kernel_rfl) (by simp) ?_
     refine acL rfl (fun K hK => ?_) ?_
     ·go_simp
      go_at_call 49
      refine (rsnap_any (str nm) _).mono ?_
      rintro e w5 ⟨rfl, rfl⟩
      rw [str_list, HIV.out]
      first
       | refine hK.out _ _ ?_ (fun hHeld => ?_)
       | (go_wp2_with fail; refine hK.out _ _ ?_ (fun hHeld => ?_))
      ·(try dsimp only)
       exact HKF.out _ (below_drewN (Below.refl F.heap.size F) 1)
      clear hK K
      try simp only [Act.put, qA, qB, qC]
      refine tkL 2 rfl ?_
      refine tkL 3 rfl ?_
      refine tkL 4 rfl ?_
      refine tkL 5 rfl ?_
      refine tkM 6 rfl ?_
      refine tkM 7 rfl ?_
      refine tkM 8 rfl ?_
      refine tkM 9 rfl ?_
      refine tkM 10 rfl ?_
      refine tkL 11 rfl ?_
      refine tkL 12 rfl ?_
      refine tkM 13 rfl ?_
      refine tkM 14 rfl ?_
      refine tkM 15 rfl ?_
      refine tkM 16 rfl ?_
      refine tkM 17 rfl ?_
      refine tkM 18 rfl ?_
      refine tkM 19 rfl ?_
      refine tkM 20 rfl ?_
      refine tkM 21 rfl ?_
      refine tkM 22 rfl ?_
      refine tkM 23 rfl ?_
      refine tkM 24 rfl ?_
      refine tkM 25 rfl ?_
      refine tkM 26 rfl ?_
      refine tkM 27 rfl ?_
      refine tkL 28 rfl ?_
      refine wpAnyH_done (by kernel_rfl) ?_ _
      (try dsimp only)
      have HIN := hide (HIF.out.at (below_drewN (Below.refl F.heap.size F) 1))
      have HCN := hide (HCF.out.trans (Chg.of_below (below_drewN (Below.refl F.heap.size F) 1) (fun _ => False)) fun _ e => e.elim)
      go_wp2_with fail
      go_roundw
      case rel => exact ⟨j + 1, by omega, by go_num, hide ⟨vo, da, by rw [HTK.out, HNB.out]; exact HIN.out, HCN.out⟩⟩
      case measure => simp [intOf]; omega
     exact AllReadyH.nil
    | true =>
     obtain ⟨s', hs'⟩ := Option.isSome_iff_exists.1 HOK2.out
     obtain rfl := HRB.out s' hs'
     have hst : stateL nm B = if s'.name = nm then some s' else none := by unfold stateL; rw [hs']; rfl
     have hchk : s'.chk = 0 := readB_chk hs'
     have hpos := chk_ix hchk
     have hname := (name_chk hchk).1
     have HCI := hide hpos
     have HIV := hide hiv
     by_cases hnm2 : s'.name = nm
     ·have hnb : newB t S nm = if S.ix < s'.ix then s' else S := by
       unfold newB
       rw [HBB.out, hst, if_pos hnm2]
      have HNE : Hid (∀ sN : ByteArray, sN.data.toList = nameL s'.ix → ((str nm).toList == sN.toList) = true) := hide fun sN hN => by rw [tl_beq, str_list, hN, ← hname, hnm2]; simp
      rw [if_pos hnm2] at hst
      clear hiv hst hnm2 hname
      cases sb with
      | false =>
       have hsz0 : ¬ 0 < S.ix := by simpa using HSB.out
       have HNB : Hid (newB t S nm = s') := hide (by rw [hnb, if_pos (by omega)])
       clear hnb hsz0 hpos hchk
       refine wp_region_held_drew (S := fun W => W.cell? ⟨w4.heap.size, 0, none⟩ = some (.int .i64 s'.ix) ∧ W.cell? ⟨xb, 1, none⟩ = some (.int .i64 S.ix) ∧ W.cell? ⟨xb, 5, none⟩ = some (.bool false)) (by kernel_rfl) ?_ (fun hHeld => ?_)
       ·(try dsimp only)
        exact HKF.out _ (below_drewN (Below.refl F.heap.size F) 1)
       refine tkL 0 rfl ?_
       refine wpAnyH_ready (rs := [1]) (by kernel_rfl) (by simp) ?_
       refine acL rfl (fun K hK => ?_) ?_
       ·go_simp
        go_at_call 49
        refine (rsnap_any (str nm) _).mono ?_
        rintro e w5 ⟨rfl, rfl⟩
        rw [str_list, HIV.out]
        first
         | refine hK.out _ _ ?_ (fun hHeld => ?_)
         | (go_wp2_with fail; refine hK.out _ _ ?_ (fun hHeld => ?_))
        ·(try dsimp only)
         exact HKF.out _ (below_drewN (Below.refl F.heap.size F) 1)
        clear hK K
        try simp only [Act.put, qA, qB, qC]
        refine tkL 2 rfl ?_
        refine tkL 3 rfl ?_
        refine tkL 4 rfl ?_
        refine tkL 5 rfl ?_
        refine tkL 6 rfl ?_
        refine tkL 7 rfl ?_
        refine tkL 8 rfl ?_
        refine wpAnyH_ready (rs := [9]) (by kernel_rfl) (by simp) ?_
        refine acL rfl (fun K hK => ?_) ?_
        ·go_simp
         go_at_call 50
         refine (rname6_any (by have := HCI.out; omega) HCI.out.2).mono ?_
         rintro e w6 ⟨sN, rfl, hsN, hb6⟩
         have hcmp := HNE.out sN hsN
         have HB6 : Hid (Below F.heap.size F w6) := hide ((below_drewN (Below.refl F.heap.size F) 1).trans hb6)
         clear hsN hb6
         first
          | refine hK.out _ _ ?_ (fun hHeld => ?_)
          | (go_wp2_with fail; refine hK.out _ _ ?_ (fun hHeld => ?_))
         ·(try dsimp only)
          exact HKF.out _ HB6.out
         clear hK K
         try simp only [Act.put, qA, qB, qC]
         refine tkL 10 rfl ?_
         refine tkL 11 rfl ?_
         refine tkL 12 rfl ?_
         refine tkL 13 rfl ?_
         refine tkL 14 rfl ?_
         refine tkL 15 rfl ?_
         refine tkL 16 rfl ?_
         refine tkL 17 rfl ?_
         refine tkL 18 rfl ?_
         refine tkM 19 rfl ?_
         refine tkM 20 rfl ?_
         refine tkM 21 rfl ?_
         refine tkM 22 rfl ?_
         refine tkM 23 rfl ?_
         refine tkM 24 rfl ?_
         refine tkM 25 rfl ?_
         refine tkM 26 rfl ?_
         refine tkL 27 rfl ?_
         refine tkL 28 rfl ?_
         refine wpAnyH_done (by kernel_rfl) ?_ _
         (try dsimp only)
         have hI6 := HIF.out.at HB6.out
         have hc6 := HCF.out.trans (Chg.of_below HB6.out (fun _ => False)) fun _ e => e.elim
         have hr6 := (HB6.out.block w4.heap.size (Array.getElem?_eq_some_iff.1 HRF.out).1).trans HRF.out
         obtain ⟨hset, hcs⟩ := set_rv (S' := s') (vo' := .slice pv nv cv) (da' := .slice pd nd cd) hI6.row (by have := HCI.out; omega)
         have HIN := hide (hI6.set hcs hset (HOV.out.1.below HB6.out) (HOV.out.2.1.below HB6.out) HOV.out.2.2.1 HOV.out.2.2.2)
         have HCN := hide (hc6.trans hcs fun _ e => .inl e)
         obtain ⟨W7, hW7⟩ : ∃ W7, (((((w6.setCell ⟨xb, 1, none⟩ (.int .i64 s'.ix)).setCell ⟨xb, 2, none⟩ (.int .i64 s'.tm)).setCell ⟨xb, 3, none⟩ (.slice pv nv cv)).setCell ⟨xb, 4, none⟩ (.slice pd nd cd)).setCell ⟨xb, 5, none⟩ (.bool true)) = W7 := ⟨_, rfl⟩
         rw [hW7] at HIN HCN
         have r0 : w6.cell? ⟨w4.heap.size, 0, none⟩ = some (.int .i64 s'.ix) := by rw [cell_of_row w6 _ 0 _ _ (0, 0) hr6]; rfl
         have r1 : w6.cell? ⟨w4.heap.size, 1, none⟩ = some (.int .i64 s'.tm) := by rw [cell_of_row w6 _ 1 _ _ (0, 0) hr6]; rfl
         have r2 : w6.cell? ⟨w4.heap.size, 2, none⟩ = some (.slice pv nv cv) := by rw [cell_of_row w6 _ 2 _ _ (0, 0) hr6]; rfl
         have r3 : w6.cell? ⟨w4.heap.size, 3, none⟩ = some (.slice pd nd cd) := by rw [cell_of_row w6 _ 3 _ _ (0, 0) hr6]; rfl
         have y1 := hI6.rv.c1
         have y2 := hI6.rv.c2
         have y3 := hI6.rv.c3
         have y4 := hI6.rv.c4
         have y5 := hI6.rv.c5
         have q1 := hI6.rv.fr 1
         have q2 := hI6.rv.fr 2
         have q3 := hI6.rv.fr 3
         have q4 := hI6.rv.fr 4
         have q5 := hI6.rv.fr 5
         have HW7 := hide hW7
         clear hI6 hc6 hr6 hset hcs hW7
         go_wp2_with fail
         try rw [HW7.out]
         clear r0 r1 r2 r3 y1 y2 y3 y4 y5 q1 q2 q3 q4 q5 HW7
         go_roundw
         case rel => exact ⟨j + 1, by omega, by go_num, hide ⟨_, _, by rw [HTK.out, HNB.out]; exact HIN.out, HCN.out⟩⟩
         case measure => simp [intOf]; omega
        exact AllReadyH.nil
       exact AllReadyH.nil
      | true =>
       by_cases hlt : S.ix < s'.ix
       ·have HNB : Hid (newB t S nm = s') := hide (by rw [hnb, if_pos hlt])
        clear hnb hpos hchk
        refine wp_region_held_drew (S := fun W => W.cell? ⟨w4.heap.size, 0, none⟩ = some (.int .i64 s'.ix) ∧ W.cell? ⟨xb, 1, none⟩ = some (.int .i64 S.ix) ∧ W.cell? ⟨xb, 5, none⟩ = some (.bool true)) (by kernel_rfl) ?_ (fun hHeld => ?_)
        ·(try dsimp only)
         exact HKF.out _ (below_drewN (Below.refl F.heap.size F) 1)
        refine tkL 0 rfl ?_
        refine wpAnyH_ready (rs := [1]) (by kernel_rfl) (by simp) ?_
        refine acL rfl (fun K hK => ?_) ?_
        ·go_simp
         go_at_call 49
         refine (rsnap_any (str nm) _).mono ?_
         rintro e w5 ⟨rfl, rfl⟩
         rw [str_list, HIV.out]
         first
          | refine hK.out _ _ ?_ (fun hHeld => ?_)
          | (go_wp2_with fail; refine hK.out _ _ ?_ (fun hHeld => ?_))
         ·(try dsimp only)
          exact HKF.out _ (below_drewN (Below.refl F.heap.size F) 1)
         clear hK K
         try simp only [Act.put, qA, qB, qC]
         refine tkL 2 rfl ?_
         refine tkL 3 rfl ?_
         refine tkL 4 rfl ?_
         refine tkL 5 rfl ?_
         refine tkL 6 rfl ?_
         refine tkL 7 rfl ?_
         refine tkL 8 rfl ?_
         refine wpAnyH_ready (rs := [9]) (by kernel_rfl) (by simp) ?_
         refine acL rfl (fun K hK => ?_) ?_
         ·go_simp
          go_at_call 50
          refine (rname6_any (by have := HCI.out; omega) HCI.out.2).mono ?_
          rintro e w6 ⟨sN, rfl, hsN, hb6⟩
          have hcmp := HNE.out sN hsN
          have HB6 : Hid (Below F.heap.size F w6) := hide ((below_drewN (Below.refl F.heap.size F) 1).trans hb6)
          clear hsN hb6
          first
           | refine hK.out _ _ ?_ (fun hHeld => ?_)
           | (go_wp2_with fail; refine hK.out _ _ ?_ (fun hHeld => ?_))
          ·(try dsimp only)
           exact HKF.out _ HB6.out
          clear hK K
          try simp only [Act.put, qA, qB, qC]
          refine tkL 10 rfl ?_
          refine tkL 11 rfl ?_
          refine tkL 12 rfl ?_
          refine tkL 13 rfl ?_
          refine tkL 14 rfl ?_
          refine tkL 15 rfl ?_
          refine tkL 16 rfl ?_
          refine tkL 17 rfl ?_
          refine tkL 18 rfl ?_
          refine tkL 19 rfl ?_
          refine tkL 20 rfl ?_
          refine tkL 21 rfl ?_
          refine tkL 22 rfl ?_
          refine tkL 23 rfl ?_
          refine tkL 24 rfl ?_
          refine tkL 25 rfl ?_
          refine tkL 26 rfl ?_
          refine tkL 27 rfl ?_
          refine tkL 28 rfl ?_
          refine wpAnyH_done (by kernel_rfl) ?_ _
          (try dsimp only)
          have hI6 := HIF.out.at HB6.out
          have hc6 := HCF.out.trans (Chg.of_below HB6.out (fun _ => False)) fun _ e => e.elim
          have hr6 := (HB6.out.block w4.heap.size (Array.getElem?_eq_some_iff.1 HRF.out).1).trans HRF.out
          obtain ⟨hset, hcs⟩ := set_rv (S' := s') (vo' := .slice pv nv cv) (da' := .slice pd nd cd) hI6.row (by have := HCI.out; omega)
          have HIN := hide (hI6.set hcs hset (HOV.out.1.below HB6.out) (HOV.out.2.1.below HB6.out) HOV.out.2.2.1 HOV.out.2.2.2)
          have HCN := hide (hc6.trans hcs fun _ e => .inl e)
          obtain ⟨W7, hW7⟩ : ∃ W7, (((((w6.setCell ⟨xb, 1, none⟩ (.int .i64 s'.ix)).setCell ⟨xb, 2, none⟩ (.int .i64 s'.tm)).setCell ⟨xb, 3, none⟩ (.slice pv nv cv)).setCell ⟨xb, 4, none⟩ (.slice pd nd cd)).setCell ⟨xb, 5, none⟩ (.bool true)) = W7 := ⟨_, rfl⟩
          rw [hW7] at HIN HCN
          have r0 : w6.cell? ⟨w4.heap.size, 0, none⟩ = some (.int .i64 s'.ix) := by rw [cell_of_row w6 _ 0 _ _ (0, 0) hr6]; rfl
          have r1 : w6.cell? ⟨w4.heap.size, 1, none⟩ = some (.int .i64 s'.tm) := by rw [cell_of_row w6 _ 1 _ _ (0, 0) hr6]; rfl
          have r2 : w6.cell? ⟨w4.heap.size, 2, none⟩ = some (.slice pv nv cv) := by rw [cell_of_row w6 _ 2 _ _ (0, 0) hr6]; rfl
          have r3 : w6.cell? ⟨w4.heap.size, 3, none⟩ = some (.slice pd nd cd) := by rw [cell_of_row w6 _ 3 _ _ (0, 0) hr6]; rfl
          have y1 := hI6.rv.c1
          have y2 := hI6.rv.c2
          have y3 := hI6.rv.c3
          have y4 := hI6.rv.c4
          have y5 := hI6.rv.c5
          have q1 := hI6.rv.fr 1
          have q2 := hI6.rv.fr 2
          have q3 := hI6.rv.fr 3
          have q4 := hI6.rv.fr 4
          have q5 := hI6.rv.fr 5
          have HW7 := hide hW7
          clear hI6 hc6 hr6 hset hcs hW7
          go_wp2_with fail
          try rw [HW7.out]
          clear r0 r1 r2 r3 y1 y2 y3 y4 y5 q1 q2 q3 q4 q5 HW7
          go_roundw
          case rel => exact ⟨j + 1, by omega, by go_num, hide ⟨_, _, by rw [HTK.out, HNB.out]; exact HIN.out, HCN.out⟩⟩
          case measure => simp [intOf]; omega
         exact AllReadyH.nil
        exact AllReadyH.nil
       ·have HNB : Hid (newB t S nm = S) := hide (by rw [hnb, if_neg hlt])
        clear hnb hpos hchk
        refine wp_region_held_drew (S := fun W => W.cell? ⟨w4.heap.size, 0, none⟩ = some (.int .i64 s'.ix) ∧ W.cell? ⟨xb, 1, none⟩ = some (.int .i64 S.ix) ∧ W.cell? ⟨xb, 5, none⟩ = some (.bool true)) (by kernel_rfl) ?_ (fun hHeld => ?_)
        ·(try dsimp only)
         exact HKF.out _ (below_drewN (Below.refl F.heap.size F) 1)
        refine tkL 0 rfl ?_
        refine wpAnyH_ready (rs := [1]) (by kernel_rfl) (by simp) ?_
        refine acL rfl (fun K hK => ?_) ?_
        ·go_simp
         go_at_call 49
         refine (rsnap_any (str nm) _).mono ?_
         rintro e w5 ⟨rfl, rfl⟩
         rw [str_list, HIV.out]
         first
          | refine hK.out _ _ ?_ (fun hHeld => ?_)
          | (go_wp2_with fail; refine hK.out _ _ ?_ (fun hHeld => ?_))
         ·(try dsimp only)
          exact HKF.out _ (below_drewN (Below.refl F.heap.size F) 1)
         clear hK K
         try simp only [Act.put, qA, qB, qC]
         refine tkL 2 rfl ?_
         refine tkL 3 rfl ?_
         refine tkL 4 rfl ?_
         refine tkL 5 rfl ?_
         refine tkL 6 rfl ?_
         refine tkL 7 rfl ?_
         refine tkL 8 rfl ?_
         refine wpAnyH_ready (rs := [9]) (by kernel_rfl) (by simp) ?_
         refine acL rfl (fun K hK => ?_) ?_
         ·go_simp
          go_at_call 50
          refine (rname6_any (by have := HCI.out; omega) HCI.out.2).mono ?_
          rintro e w6 ⟨sN, rfl, hsN, hb6⟩
          have hcmp := HNE.out sN hsN
          have HB6 : Hid (Below F.heap.size F w6) := hide ((below_drewN (Below.refl F.heap.size F) 1).trans hb6)
          clear hsN hb6
          first
           | refine hK.out _ _ ?_ (fun hHeld => ?_)
           | (go_wp2_with fail; refine hK.out _ _ ?_ (fun hHeld => ?_))
          ·(try dsimp only)
           exact HKF.out _ HB6.out
          clear hK K
          try simp only [Act.put, qA, qB, qC]
          refine tkL 10 rfl ?_
          refine tkL 11 rfl ?_
          refine tkL 12 rfl ?_
          refine tkL 13 rfl ?_
          refine tkL 14 rfl ?_
          refine tkL 15 rfl ?_
          refine tkL 16 rfl ?_
          refine tkL 17 rfl ?_
          refine tkL 18 rfl ?_
          refine tkL 19 rfl ?_
          refine tkL 20 rfl ?_
          refine tkL 21 rfl ?_
          refine tkL 22 rfl ?_
          refine tkL 23 rfl ?_
          refine tkL 24 rfl ?_
          refine tkL 25 rfl ?_
          refine tkL 26 rfl ?_
          refine tkL 27 rfl ?_
          refine tkL 28 rfl ?_
          refine wpAnyH_done (by kernel_rfl) ?_ _
          (try dsimp only)
          have HIN := hide (HIF.out.at HB6.out)
          have HCN := hide (HCF.out.trans (Chg.of_below HB6.out (fun _ => False)) fun _ e => e.elim)
          go_wp2_with fail
          go_roundw
          case rel => exact ⟨j + 1, by omega, by go_num, hide ⟨vo, da, by rw [HTK.out, HNB.out]; exact HIN.out, HCN.out⟩⟩
          case measure => simp [intOf]; omega
         exact AllReadyH.nil
        exact AllReadyH.nil
     ·have HNB : Hid (newB t S nm = S) := hide (by
       unfold newB
       rw [HBB.out, hst, if_neg hnm2])
      have HNE : Hid (∀ sN : ByteArray, sN.data.toList = nameL s'.ix → ((str nm).toList == sN.toList) = false) := hide fun sN hN => by rw [tl_beq, str_list, hN, ← hname]; exact decide_eq_false fun e => hnm2 e.symm
      clear hiv hst hnm2 hname hpos hchk
      refine wp_region_held_drew (S := fun W => W.cell? ⟨w4.heap.size, 0, none⟩ = some (.int .i64 s'.ix) ∧ W.cell? ⟨xb, 1, none⟩ = some (.int .i64 S.ix) ∧ W.cell? ⟨xb, 5, none⟩ = some (.bool sb)) (by kernel_rfl) ?_ (fun hHeld => ?_)
      ·(try dsimp only)
       exact HKF.out _ (below_drewN (Below.refl F.heap.size F) 1)
      refine tkL 0 rfl ?_
      refine wpAnyH_ready (rs := [1]) (by kernel_rfl) (by simp) ?_
      refine acL rfl (fun K hK => ?_) ?_
      ·go_simp
       go_at_call 49
       refine (rsnap_any (str nm) _).mono ?_
       rintro e w5 ⟨rfl, rfl⟩
       rw [str_list, HIV.out]
       first
        | refine hK.out _ _ ?_ (fun hHeld => ?_)
        | (go_wp2_with fail; refine hK.out _ _ ?_ (fun hHeld => ?_))
       ·(try dsimp only)
        exact HKF.out _ (below_drewN (Below.refl F.heap.size F) 1)
       clear hK K
       try simp only [Act.put, qA, qB, qC]
       refine tkL 2 rfl ?_
       refine tkL 3 rfl ?_
       refine tkL 4 rfl ?_
       refine tkL 5 rfl ?_
       refine tkL 6 rfl ?_
       refine tkL 7 rfl ?_
       refine tkL 8 rfl ?_
       refine wpAnyH_ready (rs := [9]) (by kernel_rfl) (by simp) ?_
       refine acL rfl (fun K hK => ?_) ?_
       ·go_simp
        go_at_call 50
        refine (rname6_any (by have := HCI.out; omega) HCI.out.2).mono ?_
        rintro e w6 ⟨sN, rfl, hsN, hb6⟩
        have hcmp := HNE.out sN hsN
        have HB6 : Hid (Below F.heap.size F w6) := hide ((below_drewN (Below.refl F.heap.size F) 1).trans hb6)
        clear hsN hb6
        first
         | refine hK.out _ _ ?_ (fun hHeld => ?_)
         | (go_wp2_with fail; refine hK.out _ _ ?_ (fun hHeld => ?_))
        ·(try dsimp only)
         exact HKF.out _ HB6.out
        clear hK K
        try simp only [Act.put, qA, qB, qC]
        refine tkL 10 rfl ?_
        refine tkL 11 rfl ?_
        refine tkL 12 rfl ?_
        refine tkM 13 rfl ?_
        refine tkM 14 rfl ?_
        refine tkM 15 rfl ?_
        refine tkM 16 rfl ?_
        refine tkM 17 rfl ?_
        refine tkM 18 rfl ?_
        refine tkM 19 rfl ?_
        refine tkM 20 rfl ?_
        refine tkM 21 rfl ?_
        refine tkM 22 rfl ?_
        refine tkM 23 rfl ?_
        refine tkM 24 rfl ?_
        refine tkM 25 rfl ?_
        refine tkM 26 rfl ?_
        refine tkM 27 rfl ?_
        refine tkL 28 rfl ?_
        refine wpAnyH_done (by kernel_rfl) ?_ _
        (try dsimp only)
        have HIN := hide (HIF.out.at HB6.out)
        have HCN := hide (HCF.out.trans (Chg.of_below HB6.out (fun _ => False)) fun _ e => e.elim)
        go_wp2_with fail
        go_roundw
        case rel => exact ⟨j + 1, by omega, by go_num, hide ⟨vo, da, by rw [HTK.out, HNB.out]; exact HIN.out, HCN.out⟩⟩
        case measure => simp [intOf]; omega
       exact AllReadyH.nil
      exact AllReadyH.nil
   ·have hvf : isV nm = false := by simpa using hiv
    have HNB : Hid (newB t S nm = S) := hide (by
     unfold newB
     cases hs : stateL nm (t.readB nm) with
     | none => rfl
     | some s' => exact absurd (stateL_isV hs).2.2 hiv)
    have HIV := hide hvf
    clear hiv hvf
    refine wp_region_held_drew (S := fun W => W.cell? ⟨w4.heap.size, 0, none⟩ = some (.int .i64 s.ix) ∧ W.cell? ⟨xb, 1, none⟩ = some (.int .i64 S.ix) ∧ W.cell? ⟨xb, 5, none⟩ = some (.bool sb)) (by kernel_rfl) ?_ (fun hHeld => ?_)
    ·(try dsimp only)
     exact HKF.out _ (below_drewN (Below.refl F.heap.size F) 1)
    refine tkL 0 rfl ?_
    refine wpAnyH_ready (rs := [1]) (by kernel_rfl) (by simp) ?_
    refine acL rfl (fun K hK => ?_) ?_
    ·go_simp
     go_at_call 49
     refine (rsnap_any (str nm) _).mono ?_
     rintro e w5 ⟨rfl, rfl⟩
     rw [str_list, HIV.out]
     first
      | refine hK.out _ _ ?_ (fun hHeld => ?_)
      | (go_wp2_with fail; refine hK.out _ _ ?_ (fun hHeld => ?_))
     ·(try dsimp only)
      exact HKF.out _ (below_drewN (Below.refl F.heap.size F) 1)
     clear hK K
     try simp only [Act.put, qA, qB, qC]
     refine tkL 2 rfl ?_
     refine tkM 3 rfl ?_
     refine tkL 4 rfl ?_
     refine tkL 5 rfl ?_
     refine tkM 6 rfl ?_
     refine tkM 7 rfl ?_
     refine tkM 8 rfl ?_
     refine tkM 9 rfl ?_
     refine tkM 10 rfl ?_
     refine tkL 11 rfl ?_
     refine tkL 12 rfl ?_
     refine tkM 13 rfl ?_
     refine tkM 14 rfl ?_
     refine tkM 15 rfl ?_
     refine tkM 16 rfl ?_
     refine tkM 17 rfl ?_
     refine tkM 18 rfl ?_
     refine tkM 19 rfl ?_
     refine tkM 20 rfl ?_
     refine tkM 21 rfl ?_
     refine tkM 22 rfl ?_
     refine tkM 23 rfl ?_
     refine tkM 24 rfl ?_
     refine tkM 25 rfl ?_
     refine tkM 26 rfl ?_
     refine tkM 27 rfl ?_
     refine tkL 28 rfl ?_
     refine wpAnyH_done (by kernel_rfl) ?_ _
     (try dsimp only)
     have HIN := hide (HIF.out.at (below_drewN (Below.refl F.heap.size F) 1))
     have HCN := hide (HCF.out.trans (Chg.of_below (below_drewN (Below.refl F.heap.size F) 1) (fun _ => False)) fun _ e => e.elim)
     go_wp2_with fail
     go_roundw
     case rel => exact ⟨j + 1, by omega, by go_num, hide ⟨vo, da, by rw [HTK.out, HNB.out]; exact HIN.out, HCN.out⟩⟩
     case measure => simp [intOf]; omega
    exact AllReadyH.nil
  ·have hjl : j = nl := by omega
   have HBF : Hid (S = t.found) := hide (by
    rw [← HSS.out, hjl, List.take_of_length_le (by have := HNL.out; omega), ← HL.out]
    exact best_found HRS.out)
   clear hjl
   have HLS2 := hide (rlist_any HI3.out.rq)
   rw [HL.out] at HLS2
   clear HRW2
   go_wp2_with fail
   refine HLS2.out.mono ?_
   rintro e W5 ⟨v5, rfl, hrow5, hc5⟩
   rw [HNL.out] at hrow5
   obtain ⟨p5, c5, rfl, hcl5⟩ := row_names hrow5 HNL.out.symm
   have HI5 := hide (HI3.out.at (chg_below hc5))
   have hwr : w.heap.size ≤ wr.heap.size := HI3.out.bw.size
   have HRW5 := hide (fun (W : World) (T : Nat → Prop) (hW : Chg W5 W T) (hT : ∀ i, T i → i < w.heap.size) k y (hk : L[k]? = some y) => (show ∃ g, p5 = some ⟨g, 0, none⟩ ∧ W.cell? ⟨g, k, none⟩ = some (.string (str y)) from by
    obtain ⟨g, e, hB, hc⟩ := hcl5 k y hk
    exact ⟨g, e, hW.cell hc fun ht => by have := hT _ ht; dsimp only at this; omega⟩))
   rw [HNL.out]
   clear hrow5 hc5 hcl5 HLS2 HCR HI3 HSS hwr
   obtain ⟨own, hown⟩ : ∃ own, S.name = own := ⟨_, rfl⟩
   have HOWN := hide hown
   have HOT0 : Hid (t.others t.found.name = othersL own (L.filter isV) t) := hide (by unfold Dk.others; rw [HL.out, ← HBF.out, HOWN.out])
   have HSG := hide (show S = sn0 ∨ S.chk = 0 from by rw [HBF.out]; exact found_good t)
   have HRR := hide (show ∀ i, R i → i < w.heap.size from HRZ.out.1)
   obtain ⟨sb, hsb⟩ : ∃ sb, decide (0 < S.ix) = sb := ⟨_, rfl⟩
   have HSB := hide hsb
   have HXV := hide (fun (W : World) (hW : Chg W5 W R) => HI5.out.rv.chg hW (fun e => by have := HRR.out _ e; have := HI5.out.xl; omega) (.inr fun k hk e => by have := HI5.out.vo.lt k hk; have := HRR.out _ e; omega) (by
    rcases HI5.out.da with ⟨e1, e2⟩ | ⟨gj, cap, e1, hB, _⟩
    ·exact .inl (by simpa using e2)
    ·refine .inr fun k hk e => ?_
     rw [e1] at hk
     simp only [Value.ownBlock, Option.some.injEq] at hk
     have := HRR.out _ e
     omega))
   clear hown hsb
   go_wp2_with fail
   go_loopw [12, 13, 76] (fun _ _ i wr2 => ∃ k : Nat, k ≤ nl ∧ i = .int .i64 k ∧ Hid (∃ (tk : Dk) (R' : Nat → Prop), othersL own ((L.drop k).filter isV) tk = othersL own (L.filter isV) t ∧ tk.Fine (n + k) U ∧ RdIs wr2 (fun i => Z i ∨ i = xb) R' x tk ∧ Chg W5 wr2 R ∧ ∀ i, R' i → R i ∨ W5.heap.size ≤ i)) (fun _ _ i _ => nl - (intOf i).toNat)
   case atStart => exact ⟨0, Nat.zero_le _, rfl, hide ⟨t, R, rfl, HF.out, HI5.out.rq.is_, Chg.refl _ _, fun i hi => .inl hi⟩⟩
   case round =>
    obtain ⟨k, hk, rfl, hrel⟩ := hrel
    obtain ⟨tk, R', hot, hfk, hrd, hcw, hsub⟩ := hrel.out
    have HOT := hide hot
    have HFK := hide hfk
    have HRK := hide hrd
    have HCW := hide hcw
    have HSUB := hide hsub
    clear hrel hot hfk hrd hcw hsub
    by_cases hkn : (k : Int) < (nl : Int)
    ·obtain ⟨nm, hnm⟩ : ∃ nm, L[k]? = some nm := ⟨_, List.getElem?_eq_getElem (by have := HNL.out; omega)⟩
     obtain ⟨g5, rfl, hcell⟩ := HRW5.out wr _ HCW.out (fun i e => HRR.out i e) k nm hnm
     have hdr : L.drop k = nm :: L.drop (k + 1) := by rw [List.drop_eq_getElem_cons (by have := HNL.out; omega)]; congr 1; rw [List.getElem?_eq_getElem (by have := HNL.out; omega)] at hnm; exact Option.some.inj hnm
     have HDR := hide hdr
     have HON := hide (HLO.out nm (List.mem_of_getElem? hnm))
     have hv := HXV.out wr HCW.out
     have y1 := hv.c1
     have y5 := hv.c5
     rw [HSB.out] at y5
     have HSNP := hide (fun (W : World) => (rsnap_any (str nm) W))
     rw [str_list] at HSNP
     -- the file is dropped
     have HDP := hide (fun (w6 : World) (hb6 : Below wr.heap.size wr w6) => (show Calls Tryz.prog 51 #[.pointer (some ⟨x, 0, none⟩), .string (str nm)] w6 fun e w' => e = .returned (.int .i64 ((tk.drop nm).1 : Nat)) ∧ ∃ R'', RdIs w' (fun i => Z i ∨ i = xb) R'' x (tk.drop nm).2 ∧ Chg W5 w' R ∧ ∀ i, R'' i → R i ∨ W5.heap.size ≤ i from by
      have hq : Rq w6 (fun i => Z i ∨ i = xb) R' x tk := ⟨HRK.out.at (Chg.of_below hb6 _), HFK.out.ok, HFK.out.calm (by have := HNU.out.1; omega)⟩
      have h1 := rdrop_any hq (s := str nm) (by have := okN_len HON.out; rw [str_size]; unfold maxLen; omega)
      rw [str_list] at h1
      refine h1.mono ?_
      rintro e w' ⟨he, R'', k1, k2, k3⟩
      have hs1 := HCW.out.size
      have hs2 := hb6.size
      refine ⟨he, R'', k1, (HCW.out.then (Chg.of_below hb6 R) fun i hi => .inl hi).then k2 fun i hi => HSUB.out i hi, fun i hi => ?_⟩
      rcases k3 i hi with e | e
      ·exact HSUB.out i e
      ·exact .inr (by omega)))
     have HFD := hide (HFK.out.drop (by have := HNU.out.1; omega) nm)
     obtain ⟨m, y, hm⟩ : ∃ m y, tk.drop nm = (m, y) := ⟨_, _, rfl⟩
     rw [hm] at HDP HFD
     have HM := hide hm
     have hof : nm ≠ own → isV nm = true → (if m = 0 then othersL own ((L.drop (k + 1)).filter isV) y else (m, y)) = othersL own (L.filter isV) t := fun h1 h2 => by
      have := HOT.out
      rw [HDR.out, List.filter_cons_of_pos h2, othersL_go h1 HM.out] at this
      exact this
     have HOF := hide hof
     clear hnm hdr hv hm hof
     cases hiv : isV nm with
     | false =>
      rw [hiv] at HSNP
      have hnx : othersL own ((L.drop (k + 1)).filter isV) tk = othersL own (L.filter isV) t := by
       have := HOT.out
       rw [HDR.out, List.filter_cons_of_neg (by rw [hiv]; simp)] at this
       exact this
      have HNX := hide hnx
      clear hiv hnx HDP HFD HOF
      go_wp2_with fail
      refine (HSNP.out _).mono ?_
      rintro e w6 ⟨rfl, rfl⟩
      go_wp2_with fail
      go_roundw
      case rel => exact ⟨k + 1, by omega, by go_num, hide ⟨tk, R', HNX.out, HFK.out.mono (by omega) (Nat.le_refl _), HRK.out, HCW.out, HSUB.out⟩⟩
      case measure => simp [intOf]; omega
     | true =>
      rw [hiv] at HSNP
      have HIV := hide hiv
      clear hiv
      cases sb with
      | false =>
       have h0 : ¬ 0 < S.ix := by simpa using HSB.out
       have hno : nm ≠ own := fun e => by
        have e1 : own = [] := by rw [← HOWN.out]; unfold Sn.name; rw [if_neg h0]
        have e2 := HON.out
        rw [e, e1] at e2
        simp [okN] at e2
       have HSP := hide (HOF.out hno HIV.out)
       clear h0 hno HOF
       go_wp2_with fail
       refine (HSNP.out _).mono ?_
       rintro e w6 ⟨rfl, rfl⟩
       go_wp2_with fail
       refine (HDP.out _ (Below.refl _ _)).mono ?_
       rintro e w8 ⟨rfl, R'', k1, k2, k3⟩
       have HK := hide (And.intro k1 (And.intro k2 k3))
       clear k1 k2 k3
       by_cases hm0 : m = 0
       ·subst hm0
        have ez : (((0 : Nat) : Int) != 0) = false := rfl
        rw [if_pos rfl] at HSP
        go_wp2_with fail
        go_roundw
        case rel => exact ⟨k + 1, by omega, by go_num, hide ⟨y, R'', HSP.out, HFD.out, HK.out.1, HK.out.2.1, HK.out.2.2⟩⟩
        case measure => simp [intOf]; omega
       ·have ez : ((m : Int) != 0) = true := by simpa using hm0
        rw [if_neg hm0] at HSP
        have HFIN : Hid (RoP w Z R x t (.returned (.tuple #[.pointer none, .int .i64 (m : Nat)])) w8) := hide (by
         have hov : t.openV = (m, y) := by unfold Dk.openV; rw [HOT0.out, ← HSP.out, if_pos (show (m, y).1 ≠ 0 from hm0)]
         have hs5 := HI5.out.bw.size
         unfold RoP
         rw [hov]
         exact .inl ⟨hm0, rfl, R'', HK.out.1.chg (Chg.refl _ (fun _ => False)) (fun _ e => e.elim) (fun i hi => .inl (.inl hi)), (Chg.of_below HI5.out.bw R).then HK.out.2.1 fun i hi => .inl hi, fun i hi => (HK.out.2.2 i hi).imp id fun e => by omega⟩)
        clear hm0
        go_wp2
        go_ret2
        exact HFIN.out
      | true =>
       have h0 : 0 < S.ix := by simpa using HSB.out
       have hch : S.chk = 0 := by
        rcases HSG.out with e | e
        ·rw [e] at h0; simp [sn0] at h0
        ·exact e
       have hix := chk_ix hch
       have HNMX := hide (fun (W : World) => rname6_any (w := W) (by omega) hix.2)
       have HOE := hide (show own = nameL S.ix from by rw [← HOWN.out]; unfold Sn.name; rw [if_pos h0])
       clear h0 hch hix
       by_cases hno : nm = own
       ·have hnx : othersL own ((L.drop (k + 1)).filter isV) tk = othersL own (L.filter isV) t := by
         have := HOT.out
         rw [HDR.out, List.filter_cons_of_pos HIV.out, othersL_own hno] at this
         exact this
        have HNX := hide hnx
        have HNO := hide hno
        clear hnx hno HDP HFD HOF
        go_wp2_with fail
        refine (HSNP.out _).mono ?_
        rintro e w6 ⟨rfl, rfl⟩
        go_wp2_with fail
        refine (HNMX.out _).mono ?_
        rintro e w7 ⟨sN, rfl, hsN, hb7⟩
        have hcmp : ((str nm).toList == sN.toList) = true := by rw [tl_beq, str_list, hsN, ← HOE.out, HNO.out]; simp
        have HB7 := hide hb7
        clear hsN hb7
        go_wp2_with fail
        go_roundw
        case rel => exact ⟨k + 1, by omega, by go_num, hide ⟨tk, R', HNX.out, HFK.out.mono (by omega) (Nat.le_refl _), HRK.out.at (Chg.of_below HB7.out _), HCW.out.then (Chg.of_below HB7.out R) (fun i hi => .inl hi), HSUB.out⟩⟩
        case measure => simp [intOf]; omega
       ·have HSP := hide (HOF.out hno HIV.out)
        have HNO := hide hno
        clear hno HOF
        go_wp2_with fail
        refine (HSNP.out _).mono ?_
        rintro e w6 ⟨rfl, rfl⟩
        go_wp2_with fail
        refine (HNMX.out _).mono ?_
        rintro e w7 ⟨sN, rfl, hsN, hb7⟩
        have hcmp : ((str nm).toList == sN.toList) = false := by rw [tl_beq, str_list, hsN, ← HOE.out]; exact decide_eq_false HNO.out
        have HB7 := hide hb7
        clear hsN hb7
        go_wp2_with fail
        refine (HDP.out _ (HB7.out)).mono ?_
        rintro e w8 ⟨rfl, R'', k1, k2, k3⟩
        have HK := hide (And.intro k1 (And.intro k2 k3))
        clear k1 k2 k3
        by_cases hm0 : m = 0
        ·subst hm0
         have ez : (((0 : Nat) : Int) != 0) = false := rfl
         rw [if_pos rfl] at HSP
         go_wp2_with fail
         go_roundw
         case rel => exact ⟨k + 1, by omega, by go_num, hide ⟨y, R'', HSP.out, HFD.out, HK.out.1, HK.out.2.1, HK.out.2.2⟩⟩
         case measure => simp [intOf]; omega
        ·have ez : ((m : Int) != 0) = true := by simpa using hm0
         rw [if_neg hm0] at HSP
         have HFIN : Hid (RoP w Z R x t (.returned (.tuple #[.pointer none, .int .i64 (m : Nat)])) w8) := hide (by
          have hov : t.openV = (m, y) := by unfold Dk.openV; rw [HOT0.out, ← HSP.out, if_pos (show (m, y).1 ≠ 0 from hm0)]
          have hs5 := HI5.out.bw.size
          unfold RoP
          rw [hov]
          exact .inl ⟨hm0, rfl, R'', HK.out.1.chg (Chg.refl _ (fun _ => False)) (fun _ e => e.elim) (fun i hi => .inl (.inl hi)), (Chg.of_below HI5.out.bw R).then HK.out.2.1 fun i hi => .inl hi, fun i hi => (HK.out.2.2 i hi).imp id fun e => by omega⟩)
         clear hm0
         go_wp2
         go_ret2
         exact HFIN.out
    ·have hkl : k = nl := by omega
     have HOD : Hid (t.others t.found.name = (0, tk)) := hide (by
      have := HOT.out
      rw [hkl, List.drop_of_length_le (by have := HNL.out; omega)] at this
      rw [HOT0.out, ← this]
      rfl)
     have HOV : Hid (t.openV = tk.sync) := hide (by unfold Dk.openV; rw [HOD.out]; rfl)
     have HSY := hide (rsync_any (⟨HRK.out, HFK.out.ok, HFK.out.calm (by have := HNU.out.1; omega)⟩ : Rq wr (fun i => Z i ∨ i = xb) R' x tk))
     clear hkl
     go_wp2_with fail
     refine HSY.out.mono ?_
     rintro e w8 ⟨rfl, R'', k1, k2, k3⟩
     have hs1 := HCW.out.size
     have hs5 := HI5.out.bw.size
     have hcw8 : Chg W5 w8 R := HCW.out.then k2 fun i hi => HSUB.out i hi
     have hr8 : RdIs w8 Z R'' x tk.sync.2 := k1.chg (Chg.refl _ (fun _ => False)) (fun _ e => e.elim) fun i hi => .inl (.inl hi)
     have hsb8 : ∀ i, R'' i → R i ∨ W5.heap.size ≤ i := fun i hi => by
      rcases k3 i hi with e | e
      ·exact HSUB.out i e
      ·exact .inr (by omega)
     have hwc : Chg w w8 R := (Chg.of_below HI5.out.bw R).then hcw8 fun i hi => .inl hi
     have hv8 := HXV.out w8 hcw8
     have hxl5 := HI5.out.lt
     have hxl := HI5.out.xl
     have HFIN : Hid (RoP w Z R x t (if tk.sync.1 ≠ 0 then .returned (.tuple #[.pointer none, .int .i64 (tk.sync.1 : Nat)]) else .returned (.tuple #[.pointer (some ⟨xb, 0, none⟩), .int .i64 0])) w8) := hide (by
      unfold RoP
      rw [HOV.out]
      by_cases h0 : tk.sync.1 ≠ 0
      ·rw [if_pos h0]
       exact .inl ⟨h0, rfl, R'', hr8, hwc, fun i hi => (hsb8 i hi).imp id fun e => by omega⟩
      ·rw [if_neg h0]
       refine .inr ⟨by omega, xb, vo, da, R'', rfl, hr8, hwc, fun i hi => (hsb8 i hi).imp id fun e => by omega, by rw [← HBF.out]; exact hv8, by omega, fun e => ?_, ?_, ?_⟩
       ·rcases hsb8 _ e with e | e
        ·have := HRR.out _ e; omega
        ·omega
       ·rw [← HBF.out]
        refine .inr fun kk hk => ?_
        have h1 := HI5.out.vo.lt kk hk
        have := hcw8.size
        exact ⟨by omega, fun e => (hsb8 _ e).elim (fun e => by have := HRR.out _ e; omega) fun e => by omega, by omega, by omega⟩
       ·rw [← HBF.out]
        rcases own_lies HI5.out.da (P := fun kk => w.heap.size + 1 ≤ kk ∧ kk < W5.heap.size) (fun kk hk => hk) with e | e
        ·exact .inl e
        ·refine .inr fun kk hk => ?_
         have h1 := e kk hk
         have := hcw8.size
         exact ⟨by omega, fun e => (hsb8 _ e).elim (fun e => by have := HRR.out _ e; omega) fun e => by omega, by omega, by omega⟩)
     obtain ⟨sy, hsy⟩ : ∃ sy : Nat, tk.sync.1 = sy := ⟨_, rfl⟩
     rw [hsy] at HFIN ⊢
     clear k1 k2 k3 hs1 hs5 hcw8 hr8 hsb8 hwc hv8 hxl5 hxl hsy HSY
     by_cases h0 : sy = 0
     ·subst h0
      have ez : (((0 : Nat) : Int) != 0) = false := rfl
      go_wp2
      go_ret2
      exact HFIN.out
     ·have ez : ((sy : Int) != 0) = true := by simpa using h0
      rw [if_pos h0] at HFIN
      clear h0
      go_wp2
      go_ret2
      exact HFIN.out
end Go.Proofs.YtgbdjcekpdfpjaaGreatDoor
