/- Several texts made one. -/
import Derived.Test.YtgbdjcekpdfpjaaGreatDoorRa
import Derived.Deep.RegionLaw
set_option linter.unusedVariables false
set_option linter.unusedSimpArgs false
namespace Go.Proofs.YtgbdjcekpdfpjaaGreatDoor
set_option maxRecDepth 200000
set_option maxHeartbeats 8000000
open Go.RowKit
theorem step_pushY {w : World} {ops : Array Oper} {o : Oper} {a : Act} {K : Act → World → Prop} {Q : Exit → Act → World → Prop} {E : Prop} (hgd : o.guard = none) (s x : Operand)
  (ho : o.op = .call { callee := .builtin .append, args := #[s, x], argTypes := #[40, 40] }) (hty : o.type = 40) {B : Nat} {v u : Value} {l m : List UInt8}
  (hs : a.eval s = v) (hx : a.eval x = u) (h : w.ownsRow B 5 1 v l.length (l.map bv)) (hu : By w u m) (hB : B ≤ w.heap.size) (hn : l.length + m.length ≤ 140737488355328)
  (hK : ∀ v' w', w'.ownsRow B 5 1 v' (l ++ m).length ((l ++ m).map bv) → Below B w w' → K (a.put o.dst v') w') : if Region.wanted o (yielded ops a.tmps) = true then Oper.wp Tryz.prog o a w K Q else E := by
 have hw : Region.wanted o (yielded ops a.tmps) = true := by simp [Region.wanted, hgd]
 obtain ⟨v', w', hr, h1, h2⟩ := run_append_row_by h hu hn hB
 rw [if_pos hw]
 exact Lib.wp_append_run_sl w s x 40 ho v u hs hx (by rw [hty]; exact hr) (hK v' w' h1 h2)
def acV (e : Ac) : Value := .agg #[.int .i64 e.k, .string e.s, .string e.t, .int .i64 e.a, .slice e.p e.n e.c]
def FPost (w : World) (Z : Nat → Prop) (F : Fl) (e : Ending) (w' : World) : Prop := ∃ p n c, e = .returned (.slice p n c) ∧ Fil w' Z (.slice p n c) F ∧ Chg w w' (fun _ => False)
theorem by_one (w : World) (x : UInt8) : By (w.alloc (.cells #[.int .u8 x.toNat] 5)) (.slice (some ⟨w.heap.size, 0, none⟩) 1 1) [x] := by
 refine ⟨some ⟨w.heap.size, 0, none⟩, 1, rfl, by simp, by unfold maxLen; omega, (fun h => by cases h), fun a e i z hz => ?_⟩
 injection e with e
 subst e
 match i, hz with
 | 0, hz => simp at hz; subst hz; rw [Addr.add_lit, cell_of_row _ w.heap.size _ _ 5 (0, 0) (heap_alloc_new w _)]; rfl
 | (j + 1), hz => simp at hz
theorem drop_snoc {o : List UInt8} {L j : Nat} {x : UInt8} (hx : o[j]? = some x) (hj : L ≤ j) : (o.drop L).take (j + 1 - L) = (o.drop L).take (j - L) ++ [x] := by
 rw [show j + 1 - L = (j - L) + 1 by omega, List.take_add_one, List.getElem?_drop, show L + (j - L) = j by omega, hx]
 rfl
theorem rdo_drop {w : World} {Z : Nat → Prop} {v : Value} {F : Fl} (h : Fil w Z v F) (hZ : ∀ i, Z i → i < w.heap.size) (hl : F.length ≤ 5000) {e : Ac} {k : List UInt8} (he : Ae w Z e (.drop k)) :
  Calls Tryz.prog 95 #[v, acV e] w (FPost w Z (Deed.run F 0 (.drop k))) := by
 obtain ⟨p, n, c, rfl⟩ := h.sl
 obtain ⟨ek, es, et, ea, ep, en, ec⟩ := e
 have h1 : ek = 3 := he.kd
 have h2 : es.data.toList = k := he.nm
 subst h1 h2
 unfold acV
 dsimp only
 obtain ⟨W, hW⟩ : ∃ W, W = w.alloc (.cells #[.int .i64 3, .string es, .string et, .int .i64 ea, .slice ep en ec] 128) := ⟨_, rfl⟩
 have hc1 : Chg w W (fun _ => False) := hW ▸ chgA _ _
 have hz1 : W.heap[w.heap.size]? = some (.cells #[.int .i64 3, .string es, .string et, .int .i64 ea, .slice ep en ec] 128) := hW ▸ heap_alloc_new w _
 have HZ1 := hide hz1
 have HC1 := hide hc1
 have k0 := cell_of_row W w.heap.size 0 _ 128 (0, 0) hz1
 have k1 := cell_of_row W w.heap.size 1 _ 128 (0, 0) hz1
 have HF := hide (h.chg hc1 fun _ h => h.elim)
 have HG := hide (rget_any HF.out es)
 clear hz1 hc1 h he
 go_enter Tryz.func95, Tryz.ntmps95
 go_wp2_with fail
 rw [← hW]
 refine HG.out.mono ?_
 rintro e1 w2 ⟨q, m, d, rfl, hby, hoff, hc2⟩
 have hF2 := HF.out.chg hc2 fun _ h => h.elim
 have HL := hide (rless_any hF2 (by omega) es)
 have HZ2 := hide (show ∀ i, Z i → i < w2.heap.size from fun i hi => Nat.lt_of_lt_of_le (hZ i hi) (Nat.le_trans HC1.out.size hc2.size))
 have hz2 := (hc2.block w.heap.size (Array.getElem?_eq_some_iff.1 HZ1.out).1 fun h => h).trans HZ1.out
 have m0 := cell_of_row w2 w.heap.size 0 _ 128 (0, 0) hz2
 have m1 := cell_of_row w2 w.heap.size 1 _ 128 (0, 0) hz2
 have HC2 := hide (HC1.out.trans hc2 fun _ h => .inl h)
 clear hby hoff hc2 hF2 hz2 k0 k1 hW
 go_wp2_with fail
 refine HL.out.mono ?_
 intro e3 w3 hp
 obtain ⟨p3, n3, c3, rfl, hf3, hc3⟩ := hp.fil HZ2.out
 have HP := hide (show FPost w Z (del F es.data.toList) (.returned (.slice p3 n3 c3)) w3 from ⟨_, _, _, rfl, hf3, HC2.out.trans hc3 fun _ h => .inl h⟩)
 clear hp hf3 hc3
 go_wp2
 go_ret
 exact HP.out
theorem rdo_trim {w : World} {Z : Nat → Prop} {v : Value} {F : Fl} (h : Fil w Z v F) (hZ : ∀ i, Z i → i < w.heap.size) (hl : F.length ≤ 5000) {e : Ac} {k : List UInt8} {T : Nat} (he : Ae w Z e (.trim k T)) (hfit : Deed.fits F (.trim k T)) :
  Calls Tryz.prog 95 #[v, acV e] w (FPost w Z (Deed.run F 0 (.trim k T))) := by
 obtain ⟨p, n, c, rfl⟩ := h.sl
 obtain ⟨ek, es, et, ea, ep, en, ec⟩ := e
 have h1 : ek = 1 := he.kd
 have h2 : es.data.toList = k := he.nm
 have h4 : ea = (T : Int) := he.pl
 subst h4
 subst h1 h2
 unfold acV
 dsimp only
 obtain ⟨W, hW⟩ : ∃ W, W = w.alloc (.cells #[.int .i64 1, .string es, .string et, .int .i64 (T : Nat), .slice ep en ec] 128) := ⟨_, rfl⟩
 have hc1 : Chg w W (fun _ => False) := hW ▸ chgA _ _
 have hz1 : W.heap[w.heap.size]? = some (.cells #[.int .i64 1, .string es, .string et, .int .i64 (T : Nat), .slice ep en ec] 128) := hW ▸ heap_alloc_new w _
 have HZ1 := hide hz1
 have HC1 := hide hc1
 have k0 := cell_of_row W w.heap.size 0 _ 128 (0, 0) hz1
 have k1 := cell_of_row W w.heap.size 1 _ 128 (0, 0) hz1
 have HF := hide (h.chg hc1 fun _ h => h.elim)
 have HG := hide (rget_any HF.out es)
 have HE := hide he
 have hns : es.size ≤ 1000 := he.ns
 clear hz1 hc1 h he
 go_enter Tryz.func95, Tryz.ntmps95
 go_wp2_with fail
 rw [← hW]
 refine HG.out.mono ?_
 rintro e1 w2 ⟨q, m, d, rfl, hby, hoff, hc2⟩
 have hF2 := HF.out.chg hc2 fun _ h => h.elim
 have HZ2 := hide (show ∀ i, Z i → i < w2.heap.size from fun i hi => Nat.lt_of_lt_of_le (hZ i hi) (Nat.le_trans HC1.out.size hc2.size))
 have hz2 := (hc2.block w.heap.size (Array.getElem?_eq_some_iff.1 HZ1.out).1 fun h => h).trans HZ1.out
 have HZ9 := hide hz2
 have HC2 := hide (HC1.out.trans hc2 fun _ h => .inl h)
 have HBY := hide hby
 have HOF := hide hoff
 have HF2 := hide hF2
 obtain ⟨hmn, hmd⟩ := hby.len
 have hmm := hby.lenMax
 have hwl : w.heap.size < w2.heap.size := (Array.getElem?_eq_some_iff.1 hz2).1
 have HCL := hide (show ∀ V, Below w2.heap.size w2 V → V.cell? ⟨w.heap.size, 0, none⟩ = some (.int .i64 1) ∧ V.cell? ⟨w.heap.size, 1, none⟩ = some (.string es) ∧ V.cell? ⟨w.heap.size, 2, none⟩ = some (.string et) ∧ V.cell? ⟨w.heap.size, 3, none⟩ = some (.int .i64 (T : Nat)) ∧ V.cell? ⟨w.heap.size, 4, none⟩ = some (.slice ep en ec) from fun V hV => by
  have hz := (hV.block w.heap.size hwl).trans HZ9.out
  exact ⟨cell_of_row V w.heap.size 0 _ 128 (0, 0) hz, cell_of_row V w.heap.size 1 _ 128 (0, 0) hz, cell_of_row V w.heap.size 2 _ 128 (0, 0) hz, cell_of_row V w.heap.size 3 _ 128 (0, 0) hz, cell_of_row V w.heap.size 4 _ 128 (0, 0) hz⟩)
 have HWW := hide (show ∀ (V : World) (pA : Option Addr) (nA cA : Nat) (L : List UInt8), Below w2.heap.size w2 V → V.ownsRow w2.heap.size 5 1 (.slice pA nA cA) L.length (L.map bv) → Calls Tryz.prog 118 #[.slice p n c, .string es, .slice pA nA cA] V (FPost w Z (put F es.data.toList L)) from fun V pA nA cA L hV ho => by
  have hcV : Chg w2 V (fun _ => False) := Chg.of_below hV _
  refine (rwith_any (HF2.out.chg hcV fun _ h => h.elim) (fun i hi => Nat.lt_of_lt_of_le (HZ2.out i hi) hV.size) (by omega) hns (Own.of_row ho).by_ (.inr fun k hk hz => ?_)).mono fun e w' hp => ?_
  ·have h1 := (ho.lt k hk).1
   have h2 := HZ2.out k hz
   omega
  ·obtain ⟨p3, n3, c3, rfl, hf, hc⟩ := hp.fil (fun i hi => Nat.lt_of_lt_of_le (HZ2.out i hi) hV.size)
   exact ⟨p3, n3, c3, rfl, hf, (HC2.out.trans hcV fun _ h => .inl h).trans hc fun _ h => .inl h⟩)
 clear hby hoff hc2 hF2 hz2 k0 k1 hW
 obtain ⟨oo, ho1, ho2, ho3⟩ := hfit
 have hT : T ≤ m := by rw [ho1] at hmn; simp at hmn; omega
 have hcut := fun W => run_cut_to W q m d T (by omega)
 have hcb := cut_to HBY.out hT
 have HCB := hide (show ∀ V, Below w2.heap.size w2 V → By V (.slice q T d) (((get F es.data.toList).getD []).take T) from fun V hV => hcb.below hV)
 have hlt : (((get F es.data.toList).getD []).take T).length ≤ 140737488355328 := by rw [ho1]; simp; omega
 have HLT := hide hlt
 have HBE := hide (bel_al w2 (.cells #[] 5))
 have HOE := hide (row_made0 w2)
 obtain ⟨m0, m1, m2, m3, m4⟩ := HCL.out w2 (Below.refl _ _)
 obtain ⟨_, m1d, _, m3d, _⟩ := HCL.out w2.drew (bel_drewN (Below.refl _ _) 1)
 obtain ⟨_, m1e, _, m3e, _⟩ := HCL.out _ HBE.out
 obtain ⟨_, m1f, _, m3f, _⟩ := HCL.out _ (bel_drewN HBE.out 1)
 have hTi : ((T : Int) < 0) = False := by simp
 have HP := hide (show ∀ e w', FPost w Z (put F es.data.toList (((get F es.data.toList).getD []).take T)) e w' → FPost w Z (Deed.run F 0 (.trim es.data.toList T)) e w' from fun _ _ h => h)
 clear hcb hlt ho1 ho2 ho3 hmn
 go_wp2_with fail
 go_region_law (first
  | (refine step_pushY (by rfl) _ _ (by rfl) (by rfl) (v := .slice (some ⟨w2.heap.size, 0, none⟩) 0 0) (u := .slice q T d) (l := []) (B := w2.heap.size) (by rfl) (by rfl) (by first | exact HOE.out | exact World.ownsRow.drew HOE.out) (HCB.out _ (by first | exact HBE.out | exact bel_drewN HBE.out 1)) HBE.out.size (by simpa using HLT.out) ?_; intro vA wA hoA hbA; rw [List.nil_append] at hoA; obtain ⟨pA, nA, cA, rfl⟩ := (by_row hoA).sl; have HA := hide hoA; have HBA : Hid (Below w2.heap.size w2 wA) := hide (by first | exact HBE.out.trans hbA | exact (bel_drewN HBE.out 1).trans hbA); obtain ⟨_, m1g, _, m3g, _⟩ := HCL.out _ HBA.out; clear hoA hbA)
  | (go_simp; refine (HWW.out _ _ _ _ _ HBA.out HA.out).mono ?_; rintro e3 w3 hp; have HP3 := hide (HP.out _ _ hp); obtain ⟨p3, n3, c3, rfl, _, _⟩ := hp))
 all_goals
  go_wp2
  go_ret
  exact HP3.out
theorem rdo_move {w : World} {Z : Nat → Prop} {v : Value} {F : Fl} (h : Fil w Z v F) (hZ : ∀ i, Z i → i < w.heap.size) (hl : F.length ≤ 5000) {e : Ac} {k t : List UInt8} (he : Ae w Z e (.move k t)) (hfit : Deed.fits F (.move k t)) :
  Calls Tryz.prog 95 #[v, acV e] w (FPost w Z (Deed.run F 0 (.move k t))) := by
 obtain ⟨p, n, c, rfl⟩ := h.sl
 obtain ⟨ek, es, et, ea, ep, en, ec⟩ := e
 have h1 : ek = 2 := he.kd
 have h2 : es.data.toList = k := he.nm
 have h4 : et.data.toList = t := he.tt
 have hts : et.size ≤ 1000 := he.ts
 subst h1 h2 h4
 unfold acV
 dsimp only
 obtain ⟨W, hW⟩ : ∃ W, W = w.alloc (.cells #[.int .i64 2, .string es, .string et, .int .i64 ea, .slice ep en ec] 128) := ⟨_, rfl⟩
 have hc1 : Chg w W (fun _ => False) := hW ▸ chgA _ _
 have hz1 : W.heap[w.heap.size]? = some (.cells #[.int .i64 2, .string es, .string et, .int .i64 ea, .slice ep en ec] 128) := hW ▸ heap_alloc_new w _
 have HZ1 := hide hz1
 have HC1 := hide hc1
 have k0 := cell_of_row W w.heap.size 0 _ 128 (0, 0) hz1
 have k1 := cell_of_row W w.heap.size 1 _ 128 (0, 0) hz1
 have HF := hide (h.chg hc1 fun _ h => h.elim)
 have HG := hide (rget_any HF.out es)
 have HE := hide he
 have hns : es.size ≤ 1000 := he.ns
 clear hz1 hc1 h he
 go_enter Tryz.func95, Tryz.ntmps95
 go_wp2_with fail
 rw [← hW]
 refine HG.out.mono ?_
 rintro e1 w2 ⟨q, m, d, rfl, hby, hoff, hc2⟩
 have hF2 := HF.out.chg hc2 fun _ h => h.elim
 have HZ2 := hide (show ∀ i, Z i → i < w2.heap.size from fun i hi => Nat.lt_of_lt_of_le (hZ i hi) (Nat.le_trans HC1.out.size hc2.size))
 have hz2 := (hc2.block w.heap.size (Array.getElem?_eq_some_iff.1 HZ1.out).1 fun h => h).trans HZ1.out
 have HZ9 := hide hz2
 have HC2 := hide (HC1.out.trans hc2 fun _ h => .inl h)
 have HBY := hide hby
 have HOF := hide hoff
 have HF2 := hide hF2
 obtain ⟨hmn, hmd⟩ := hby.len
 have hmm := hby.lenMax
 have hwl : w.heap.size < w2.heap.size := (Array.getElem?_eq_some_iff.1 hz2).1
 have HCL := hide (show ∀ V, Below w2.heap.size w2 V → V.cell? ⟨w.heap.size, 0, none⟩ = some (.int .i64 2) ∧ V.cell? ⟨w.heap.size, 1, none⟩ = some (.string es) ∧ V.cell? ⟨w.heap.size, 2, none⟩ = some (.string et) ∧ V.cell? ⟨w.heap.size, 3, none⟩ = some (.int .i64 ea) ∧ V.cell? ⟨w.heap.size, 4, none⟩ = some (.slice ep en ec) from fun V hV => by
  have hz := (hV.block w.heap.size hwl).trans HZ9.out
  exact ⟨cell_of_row V w.heap.size 0 _ 128 (0, 0) hz, cell_of_row V w.heap.size 1 _ 128 (0, 0) hz, cell_of_row V w.heap.size 2 _ 128 (0, 0) hz, cell_of_row V w.heap.size 3 _ 128 (0, 0) hz, cell_of_row V w.heap.size 4 _ 128 (0, 0) hz⟩)
 have HWW := hide (show ∀ (V : World) (pA : Option Addr) (nA cA : Nat) (L : List UInt8), Below w2.heap.size w2 V → V.ownsRow w2.heap.size 5 1 (.slice pA nA cA) L.length (L.map bv) → Calls Tryz.prog 118 #[.slice p n c, .string es, .slice pA nA cA] V (FPost w Z (put F es.data.toList L)) from fun V pA nA cA L hV ho => by
  have hcV : Chg w2 V (fun _ => False) := Chg.of_below hV _
  refine (rwith_any (HF2.out.chg hcV fun _ h => h.elim) (fun i hi => Nat.lt_of_lt_of_le (HZ2.out i hi) hV.size) (by omega) hns (Own.of_row ho).by_ (.inr fun k hk hz => ?_)).mono fun e w' hp => ?_
  ·have h1 := (ho.lt k hk).1
   have h2 := HZ2.out k hz
   omega
  ·obtain ⟨p3, n3, c3, rfl, hf, hc⟩ := hp.fil (fun i hi => Nat.lt_of_lt_of_le (HZ2.out i hi) hV.size)
   exact ⟨p3, n3, c3, rfl, hf, (HC2.out.trans hcV fun _ h => .inl h).trans hc fun _ h => .inl h⟩)
 clear hby hoff hc2 hF2 hz2 k0 k1 hW
 have HM := hide (show ∀ (V : World) (p3 : Option Addr) (n3 c3 : Nat), Chg w2 V (fun _ => False) → Fil V Z (.slice p3 n3 c3) (del F es.data.toList) → Calls Tryz.prog 118 #[.slice p3 n3 c3, .string et, .slice q m d] V (FPost w Z (Deed.run F 0 (.move es.data.toList et.data.toList))) from fun V p3 n3 c3 hcV hf3 => by
  refine (rwith_any hf3 (fun i hi => Nat.lt_of_lt_of_le (HZ2.out i hi) hcV.size) (Nat.le_trans (del_le _ _) (by omega)) hts (HBY.out.chg hcV (.inr fun _ _ h => h)) HOF.out).mono fun e w' hp => ?_
  obtain ⟨p4, n4, c4, rfl, hf, hc⟩ := hp.fil (fun i hi => Nat.lt_of_lt_of_le (HZ2.out i hi) hcV.size)
  exact ⟨p4, n4, c4, rfl, hf, (HC2.out.trans hcV fun _ h => .inl h).trans hc fun _ h => .inl h⟩)
 have HLS := hide (show ∀ V : World, Below w2.heap.size w2 V → Calls Tryz.prog 119 #[.slice p n c, .string es] V (fun e w' => ∃ p3 n3 c3, e = .returned (.slice p3 n3 c3) ∧ Fil w' Z (.slice p3 n3 c3) (del F es.data.toList) ∧ Below w2.heap.size w2 w') from fun V hV => by
  have hcV : Chg w2 V (fun _ => False) := Chg.of_below hV _
  refine (rless_any (HF2.out.chg hcV fun _ h => h.elim) (by omega) es).mono fun e w' hp => ?_
  obtain ⟨p4, n4, c4, rfl, hf, hc⟩ := hp.fil (fun i hi => Nat.lt_of_lt_of_le (HZ2.out i hi) hV.size)
  have h2 : Chg w2 w' (fun _ => False) := hcV.trans hc fun _ h => .inl h
  exact ⟨p4, n4, c4, rfl, hf, h2.os, h2.tape, h2.output, h2.size, fun k hk => h2.block k hk fun h => h⟩)
 obtain ⟨m0, m1, m2, m3, m4⟩ := HCL.out w2 (Below.refl _ _)
 obtain ⟨_, m1d, m2d, m3d, _⟩ := HCL.out w2.drew (bel_drewN (Below.refl _ _) 1)
 clear hmn hfit
 go_wp2_with fail
 go_region_law (first
  | (go_simp; refine (HLS.out _ (by first | exact Below.refl _ _ | exact bel_drewN (Below.refl _ _) 1)).mono ?_; rintro eA wA ⟨pA, nA, cA, rfl, hfA, hbA⟩; have HA := hide hfA; have HBA := hide hbA; obtain ⟨_, m1g, m2g, m3g, _⟩ := HCL.out _ hbA; clear hfA hbA)
  | (go_simp; refine (HM.out _ _ _ _ (Chg.of_below HBA.out _) HA.out).mono ?_; rintro e3 w3 hp; have HP3 := hide hp; obtain ⟨p3, n3, c3, rfl, _, _⟩ := hp))
 all_goals
  go_wp2
  go_ret
  exact HP3.out
theorem rdo_put {w : World} {Z : Nat → Prop} {v : Value} {F : Fl} (h : Fil w Z v F) (hZ : ∀ i, Z i → i < w.heap.size) (hl : F.length ≤ 5000) {e : Ac} {k : List UInt8} {T : Nat} {b : List UInt8} (he : Ae w Z e (.put k T b)) (hfit : Deed.fits F (.put k T b)) :
  Calls Tryz.prog 95 #[v, acV e] w (FPost w Z (Deed.run F 0 (.put k T b))) := by
 obtain ⟨p, n, c, rfl⟩ := h.sl
 obtain ⟨ek, es, et, ea, ep, en, ec⟩ := e
 have h1 : ek = 0 := he.kd
 have h2 : es.data.toList = k := he.nm
 have h4 : ea = (T : Int) := he.pl
 subst h4
 subst h1 h2
 unfold acV
 dsimp only
 obtain ⟨W, hW⟩ : ∃ W, W = w.alloc (.cells #[.int .i64 0, .string es, .string et, .int .i64 (T : Nat), .slice ep en ec] 128) := ⟨_, rfl⟩
 have hc1 : Chg w W (fun _ => False) := hW ▸ chgA _ _
 have hz1 : W.heap[w.heap.size]? = some (.cells #[.int .i64 0, .string es, .string et, .int .i64 (T : Nat), .slice ep en ec] 128) := hW ▸ heap_alloc_new w _
 have HZ1 := hide hz1
 have HC1 := hide hc1
 have k0 := cell_of_row W w.heap.size 0 _ 128 (0, 0) hz1
 have k1 := cell_of_row W w.heap.size 1 _ 128 (0, 0) hz1
 have HF := hide (h.chg hc1 fun _ h => h.elim)
 have HG := hide (rget_any HF.out es)
 have HE := hide he
 have hns : es.size ≤ 1000 := he.ns
 clear hz1 hc1 h he
 go_enter Tryz.func95, Tryz.ntmps95
 go_wp2_with fail
 rw [← hW]
 refine HG.out.mono ?_
 rintro e1 w2 ⟨q, m, d, rfl, hby, hoff, hc2⟩
 have hF2 := HF.out.chg hc2 fun _ h => h.elim
 have HZ2 := hide (show ∀ i, Z i → i < w2.heap.size from fun i hi => Nat.lt_of_lt_of_le (hZ i hi) (Nat.le_trans HC1.out.size hc2.size))
 have hz2 := (hc2.block w.heap.size (Array.getElem?_eq_some_iff.1 HZ1.out).1 fun h => h).trans HZ1.out
 have HZ9 := hide hz2
 have HC2 := hide (HC1.out.trans hc2 fun _ h => .inl h)
 have HBY := hide hby
 have HOF := hide hoff
 have HF2 := hide hF2
 obtain ⟨hmn, hmd⟩ := hby.len
 have hmm := hby.lenMax
 have hwl : w.heap.size < w2.heap.size := (Array.getElem?_eq_some_iff.1 hz2).1
 have HCL := hide (show ∀ V, Below w2.heap.size w2 V → V.cell? ⟨w.heap.size, 0, none⟩ = some (.int .i64 0) ∧ V.cell? ⟨w.heap.size, 1, none⟩ = some (.string es) ∧ V.cell? ⟨w.heap.size, 2, none⟩ = some (.string et) ∧ V.cell? ⟨w.heap.size, 3, none⟩ = some (.int .i64 (T : Nat)) ∧ V.cell? ⟨w.heap.size, 4, none⟩ = some (.slice ep en ec) from fun V hV => by
  have hz := (hV.block w.heap.size hwl).trans HZ9.out
  exact ⟨cell_of_row V w.heap.size 0 _ 128 (0, 0) hz, cell_of_row V w.heap.size 1 _ 128 (0, 0) hz, cell_of_row V w.heap.size 2 _ 128 (0, 0) hz, cell_of_row V w.heap.size 3 _ 128 (0, 0) hz, cell_of_row V w.heap.size 4 _ 128 (0, 0) hz⟩)
 have HWW := hide (show ∀ (V : World) (pA : Option Addr) (nA cA : Nat) (L : List UInt8), Below w2.heap.size w2 V → V.ownsRow w2.heap.size 5 1 (.slice pA nA cA) L.length (L.map bv) → Calls Tryz.prog 118 #[.slice p n c, .string es, .slice pA nA cA] V (FPost w Z (put F es.data.toList L)) from fun V pA nA cA L hV ho => by
  have hcV : Chg w2 V (fun _ => False) := Chg.of_below hV _
  refine (rwith_any (HF2.out.chg hcV fun _ h => h.elim) (fun i hi => Nat.lt_of_lt_of_le (HZ2.out i hi) hV.size) (by omega) hns (Own.of_row ho).by_ (.inr fun k hk hz => ?_)).mono fun e w' hp => ?_
  ·have h1 := (ho.lt k hk).1
   have h2 := HZ2.out k hz
   omega
  ·obtain ⟨p3, n3, c3, rfl, hf, hc⟩ := hp.fil (fun i hi => Nat.lt_of_lt_of_le (HZ2.out i hi) hV.size)
   exact ⟨p3, n3, c3, rfl, hf, (HC2.out.trans hcV fun _ h => .inl h).trans hc fun _ h => .inl h⟩)
 clear hby hoff hc2 hF2 hz2 k0 k1 hW
 obtain ⟨O, hO⟩ : ∃ O, (get F es.data.toList).getD [] = O := ⟨_, rfl⟩
 obtain ⟨hf1, hf2⟩ := hfit
 rw [hO] at hf1 hf2 hmn HBY
 have HHO := hide hO
 clear hO HG
 have hT : T ≤ m := by omega
 have hcut := fun W => run_cut_to W q m d T (by omega)
 have hcb := cut_to HBY.out hT
 have HCB := hide (show ∀ V, Below w2.heap.size w2 V → By V (.slice q T d) (O.take T) from fun V hV => hcb.below hV)
 have HEB := hide (show ∀ V, Below w2.heap.size w2 V → By V (.slice ep en ec) b from fun V hV => HE.out.by_.chg (HC2.out.trans (Chg.of_below hV _) fun _ h => .inl h) (.inr fun _ _ h => h))
 have hlt : (O.take T).length + b.length ≤ 140737488355328 := by simp; omega
 have HLT := hide hlt
 have hll : (O.take T ++ b).length = T + b.length := by simp; omega
 have HLL := hide hll
 have HBE := hide (bel_al w2 (.cells #[] 5))
 have HOE := hide (row_made0 w2)
 obtain ⟨m0, m1, m2, m3, m4⟩ := HCL.out w2 (Below.refl _ _)
 obtain ⟨_, m1d, _, m3d, m4d⟩ := HCL.out w2.drew (bel_drewN (Below.refl _ _) 1)
 obtain ⟨_, m1e, _, m3e, m4e⟩ := HCL.out _ HBE.out
 obtain ⟨_, m1f, _, m3f, m4f⟩ := HCL.out _ (bel_drewN HBE.out 1)
 have hTi : ((T : Int) < 0) = False := by simp
 have HM47 := hide (show m ≤ 140737488355328 by omega)
 have HMN := hide hmn
 have HF := hide (show ∀ L, L = over O T b → ∀ e w', FPost w Z (put F es.data.toList L) e w' → FPost w Z (Deed.run F 0 (.put es.data.toList T b)) e w' from fun L hL e w' h => by
  have e1 : Deed.run F 0 (.put es.data.toList T b) = put F es.data.toList L := by
   unfold Deed.run
   dsimp only
   rw [HHO.out, hL, Nat.sub_zero, List.take_length]
  rw [e1]
  exact h)
 clear hcb hlt hf1 hf2 hmn hll
 have HREST : Hid (∀ (K : World → Prop), True) := hide fun _ => trivial
 go_wp2_with fail
 rename_i K hK
 go_region_law (first
  | (refine step_pushY (by rfl) _ _ (by rfl) (by rfl) (v := .slice (some ⟨w2.heap.size, 0, none⟩) 0 0) (u := .slice q T d) (l := []) (B := w2.heap.size) (by rfl) (by rfl) (by first | exact HOE.out | exact World.ownsRow.drew HOE.out) (HCB.out _ (by first | exact HBE.out | exact bel_drewN HBE.out 1)) HBE.out.size (by have := HLT.out; simp only [List.length_nil, Nat.zero_add]; omega) ?_; intro vA wA hoA hbA; rw [List.nil_append] at hoA; obtain ⟨pA, nA, cA, rfl⟩ := (by_row hoA).sl; have HA := hide hoA; have HBA : Hid (Below w2.heap.size w2 wA) := hide (by first | exact HBE.out.trans hbA | exact (bel_drewN HBE.out 1).trans hbA); obtain ⟨_, m1g, _, m3g, m4g⟩ := HCL.out _ HBA.out; clear hoA hbA)
  | (refine step_pushY (by rfl) _ _ (by rfl) (by rfl) (v := .slice pA nA cA) (u := .slice ep en ec) (B := w2.heap.size) (by rfl) (by rfl) HA.out (HEB.out _ HBA.out) HBA.out.size HLT.out ?_; intro vB wB hoB hbB; obtain ⟨pB, nB, cB, rfl⟩ := (by_row hoB).sl; have HB := hide hoB; have HBB : Hid (Below w2.heap.size w2 wB) := hide (HBA.out.trans hbB); clear hoB hbB))
 all_goals
  refine hK _ _ ?_
  clear hK
  obtain rfl : nB = T + b.length := by have := (by_row HB.out).len.1; rw [this, HLL.out]
  have hsum : (T : Int) + (b.length : Int) ≤ 281474976710656 := by have := HLT.out; have := HLL.out; rw [List.length_append] at this; omega
  have hbw : Below w2.heap.size w2 wB := HBB.out
  clear hcut m0 m1 m1d m1e m1f m1g m2 m3 m3d m3e m3f m3g m4 m4d m4e m4f m4g HREST
  go_wp2_with fail
  go_loopw [7, 8] (fun u i wr => ∃ (j : Nat) (p9 : Option Addr) (n9 c9 : Nat), u = .slice p9 n9 c9 ∧ i = .int .i64 j ∧ Hid (T + b.length ≤ j ∧ (j ≤ m ∨ j = T + b.length) ∧ wr.ownsRow w2.heap.size 5 1 (.slice p9 n9 c9) (O.take T ++ b ++ (O.drop (T + b.length)).take (j - (T + b.length))).length ((O.take T ++ b ++ (O.drop (T + b.length)).take (j - (T + b.length))).map bv) ∧ Below w2.heap.size w2 wr)) (fun _ i _ => m - (intOf i).toNat)
  case atStart => exact ⟨T + b.length, _, _, _, rfl, by go_num, hide ⟨Nat.le_refl _, .inr rfl, by rw [Nat.sub_self, List.take_zero, List.append_nil]; exact HB.out, HBB.out⟩⟩
  case round =>
   obtain ⟨j, p9, n9, c9, rfl, rfl, hrel⟩ := hrel
   have HR := hide hrel.out
   clear hrel
   by_cases hjm : (j : Int) < (m : Int)
   ·obtain ⟨gb, ob, x, rfl, hx, hce⟩ := (HBY.out.below HR.out.2.2.2).cellAt (k := j) (by omega)
    have HSN := hide (drop_snoc (L := T + b.length) hx HR.out.1)
    have hlo : (O.take T ++ b ++ (O.drop (T + b.length)).take (j - (T + b.length))).length ≤ 140737488355327 := by
     rw [List.length_append, HLL.out, List.length_take]
     have := HR.out.1
     have := HM47.out
     omega
    have HLO := hide hlo
    clear hx hlo
    go_wp2_with (at_builtin; go_must (refine wpList_append_row_by rfl _ _ rfl rfl rfl rfl (row_below HR.out.2.2.1 ((Below.refl _ _).alloc (Nat.le_refl _) _)) (by_one wr x) (by have := HLO.out; rw [List.length_singleton]; omega) (by have := HR.out.2.2.2.size; simp; omega) ?_); intro v5 w5 ho5 hb5; obtain ⟨p5, n5, c5, rfl⟩ := (by_row ho5).sl; have H5 := hide (And.intro ho5 hb5); clear ho5 hb5)
    go_roundw
    case rel => exact ⟨j + 1, p5, n5, c5, rfl, by go_num, hide ⟨by have := HR.out.1; omega, .inl (by omega), by rw [HSN.out, ← List.append_assoc]; exact H5.out.1, (HR.out.2.2.2.alloc HR.out.2.2.2.size _).trans H5.out.2⟩⟩
    case measure => simp [intOf]; omega
   ·have e1 : (O.drop (T + b.length)).take (j - (T + b.length)) = O.drop (T + b.length) := by
     apply List.take_of_length_le
     rw [List.length_drop]
     have := HR.out.1
     have := HMN.out
     omega
    have HO9 := hide (show wr.ownsRow w2.heap.size 5 1 (.slice p9 n9 c9) (over O T b).length ((over O T b).map bv) from by
     unfold over
     have := HR.out.2.2.1
     rw [e1] at this
     exact this)
    have HB9 := hide HR.out.2.2.2
    obtain ⟨_, m1g, _, _, _⟩ := HCL.out _ HB9.out
    clear e1 HR
    go_wp2_with fail
    refine (HWW.out _ _ _ _ _ HB9.out HO9.out).mono ?_
    rintro e3 w3 hp
    have HP3 := hide (HF.out _ rfl _ _ hp)
    obtain ⟨p3, n3, c3, rfl, _, _⟩ := hp
    go_wp2
    go_ret
    exact HP3.out
theorem rdo_any {w : World} {Z : Nat → Prop} {v : Value} {F : Fl} (h : Fil w Z v F) (hZ : ∀ i, Z i → i < w.heap.size) (hl : F.length ≤ 5000) {e : Ac} {d : Deed} (he : Ae w Z e d) (hfit : d.fits F) :
  Calls Tryz.prog 95 #[v, acV e] w (FPost w Z (d.run F 0)) := by
 cases d with
 | put k a b => exact rdo_put h hZ hl he hfit
 | trim k n => exact rdo_trim h hZ hl he hfit
 | move k t => exact rdo_move h hZ hl he hfit
 | drop k => exact rdo_drop h hZ hl he
end Go.Proofs.YtgbdjcekpdfpjaaGreatDoor
namespace Go.Proofs.YtgbdjcekpdfpjaaGreatDoor
open Go.RowKit
theorem runs_step {F : Fl} {D : List Deed} {j : Nat} {d : Deed} (hd : D[j]? = some d) : runs F (D.take (j + 1)) = d.run (runs F (D.take j)) 0 := by
 rw [List.take_add_one, hd, Option.toList_some, runs_snoc]
set_option maxRecDepth 200000 in
set_option maxHeartbeats 4000000 in
theorem rfiles_any {w : World} {Z R : Nat → Prop} {g : Nat} {st : Dk} (h : RdIs w Z R g st) (ok : st.Ok) : Calls Tryz.prog 79 #[.pointer (some ⟨g, 0, none⟩)] w (FPost w (fun i => Z i ∨ R i) st.seen) := by
 obtain ⟨vl, va, kp, tr, hh, hkt, hl, ha⟩ := h.parts
 obtain ⟨pl, nl, cl, rfl⟩ := hl.sl
 obtain ⟨pa, na, ca, rfl⟩ := ha.sl
 have hna := ha.len.1
 have hnm : (na : Int) ≤ 9223372036854775807 := by have := ha.len; unfold maxLen at this; omega
 have c1 := hh.c1
 have c2 := hh.c2
 have hZ : ∀ i, (Z i ∨ R i) → i < w.heap.size := fun i hi => hi.elim (h.zap i) (h.rap i)
 have HL := hide hl
 have HA := hide ha
 have HZ := hide hZ
 have HNA := hide hna
 have HOK := hide ok
 clear hl ha h hh hkt hna hZ ok
 go_enter Tryz.func79, Tryz.ntmps79
 go_wp2_with fail
 go_loopw [3, 5, 15] (fun u _ i wr => ∃ (j : Nat) (q : Option Addr) (m d : Nat), u = .slice q m d ∧ j ≤ na ∧ i = .int .i64 j ∧ Hid (Chg w wr (fun _ => False) ∧ Fil wr (fun i => Z i ∨ R i) (.slice q m d) (runs st.last (st.acts.take j)))) (fun _ _ i _ => na - (intOf i).toNat)
 case atStart => exact ⟨0, _, _, _, rfl, Nat.zero_le _, rfl, hide ⟨Chg.refl _ _, HL.out⟩⟩
 case round =>
  obtain ⟨j, q, m, d, rfl, hj, rfl, hrel⟩ := hrel
  have HC := hide hrel.out.1
  have HF := hide hrel.out.2
  clear hrel
  by_cases hjn : (j : Int) < (na : Int)
  ·obtain ⟨x, hx⟩ : ∃ x, st.acts[j]? = some x := ⟨_, List.getElem?_eq_getElem (by have := HNA.out; omega)⟩
   obtain ⟨ga, oa, e, rfl, hat, hae, hra⟩ := (HA.out.chg HC.out (fun _ h => h.elim) fun _ _ h => h).at_ hx
   have hfit := HOK.out.fits j x hx
   have hfew := HOK.out.few j (by have := HNA.out; omega)
   have HST := hide (runs_step (F := st.last) hx)
   have hcA := chgA wr (.cells #[.int .i64 e.k, .string e.s, .string e.t, .int .i64 e.a, .slice e.p e.n e.c] 128)
   have hZr : ∀ i, (Z i ∨ R i) → i < (wr.alloc (.cells #[.int .i64 e.k, .string e.s, .string e.t, .int .i64 e.a, .slice e.p e.n e.c] 128)).heap.size := fun i hi => Nat.lt_of_lt_of_le (HZ.out i hi) (Nat.le_trans HC.out.size hcA.size)
   have HDO := hide (rdo_any (HF.out.chg hcA fun _ h => h.elim) hZr (by omega) (hae.chg hcA fun _ h => h.elim) hfit)
   have HCA := hide (HC.out.trans hcA fun _ h => .inl h)
   unfold acV at HDO
   obtain ⟨oo, hoo⟩ : ∃ oo, oa + j * 5 = oo := ⟨_, rfl⟩
   rw [hoo] at hat
   have e0 := hat.c0
   have e1 := hat.c1
   have e2 := hat.c2
   have e3 := hat.c3
   have e4 := hat.c4
   have hgl := lt_of_cell e0
   dsimp only at hgl
   obtain ⟨ek, es, et, ea, ep, en, ec⟩ := e
   dsimp only at e0 e1 e2 e3 e4 HDO HCA
   clear hat hae hra hfit hfew hcA hZr hx
   go_wp2_with fail
   refine HDO.out.mono ?_
   rintro e5 w5 ⟨p5, n5, c5, rfl, hf5, hc5⟩
   have H5 := hide (And.intro hf5 (HCA.out.trans hc5 fun _ h => .inl h))
   clear hf5 hc5
   go_wp2
   go_roundw
   case rel => exact ⟨j + 1, p5, n5, c5, rfl, by omega, by go_num, hide ⟨H5.out.2, by rw [HST.out]; exact H5.out.1⟩⟩
   case measure => simp [intOf]; omega
  ·have e1 : st.acts.take j = st.acts := List.take_of_length_le (by have := HNA.out; omega)
   rw [e1] at HF
   have HP := hide (show FPost w (fun i => Z i ∨ R i) st.seen (.returned (.slice q m d)) wr from ⟨_, _, _, rfl, HF.out, HC.out⟩)
   clear e1
   go_wp2
   go_ret
   exact HP.out
end Go.Proofs.YtgbdjcekpdfpjaaGreatDoor
namespace Go.Proofs.YtgbdjcekpdfpjaaGreatDoor
set_option maxRecDepth 200000
set_option maxHeartbeats 4000000
open Go.RowKit
theorem rname_any (s : ByteArray) (hs : s.size ≤ maxLen) (w : World) : Calls Tryz.prog 104 #[.string s] w fun e w' => e = .returned (.bool (okN s.data.toList)) ∧ w = w' := by
 have hl : s.data.toList.length = s.size := by rw [Array.length_toList]; rfl
 have hm : (s.size : Int) ≤ 9223372036854775807 := by unfold maxLen at hs; omega
 have HL := hide hl
 clear hl hs
 go_enter Tryz.func104, Tryz.ntmps104
 go_wp2_with fail
 go_loop [3, 4, 7] (fun _ _ i => ∃ k : Nat, k ≤ s.size ∧ i = .int .i64 k ∧ (s.data.toList.take k).all okB = true) (fun _ _ i => s.size - (intOf i).toNat)
 case atStart => exact ⟨0, by omega, rfl, rfl⟩
 case round =>
  obtain ⟨k, hk, rfl, hall⟩ := hrel
  have HALL := hide hall
  clear hall
  by_cases hkm : (k : Int) < (s.size : Int)
  ·have hks : k < s.size := by omega
   by_cases h46 : s[k].toNat = 46
   ·have g46 : ((s[k].toNat : Int) == 46) = true := ieq_true (by omega)
    have HB := hide (okN_step hks HALL.out (okB_true (.inr (.inr h46))))
    go_wp2
    all_goals
     go_round
     case rel => exact ⟨k + 1, by omega, by go_num, HB.out⟩
     case measure => simp [intOf]; omega
   ·have g46 : ((s[k].toNat : Int) == 46) = false := ieq_false (by omega)
    have hX : ((97 : Int) ≤ (s[k].toNat : Int) ∧ (s[k].toNat : Int) ≤ 122) ∨ ((48 : Int) ≤ (s[k].toNat : Int) ∧ (s[k].toNat : Int) ≤ 57) ∨ ¬ (((97 : Int) ≤ (s[k].toNat : Int) ∧ (s[k].toNat : Int) ≤ 122) ∨ ((48 : Int) ≤ (s[k].toNat : Int) ∧ (s[k].toNat : Int) ≤ 57)) := by omega
    rcases hX with ⟨x1, x2⟩ | ⟨x1, x2⟩ | hx
    ·have HB := hide (okN_step hks HALL.out (okB_true (.inl (by omega))))
     go_wp2
     all_goals
      go_round
      case rel => exact ⟨k + 1, by omega, by go_num, HB.out⟩
      case measure => simp [intOf]; omega
    ·have HB := hide (okN_step hks HALL.out (okB_true (.inr (.inl (by omega)))))
     go_wp2
     all_goals
      go_round
      case rel => exact ⟨k + 1, by omega, by go_num, HB.out⟩
      case measure => simp [intOf]; omega
    ·have HB := hide (okN_bad hks (okB_false (by omega)))
     have hx' : (s[k].toNat : Int) < 48 ∨ ((57 : Int) < (s[k].toNat : Int) ∧ (s[k].toNat : Int) < 97) ∨ (122 : Int) < (s[k].toNat : Int) := by omega
     clear hx
     rcases hx' with x1 | ⟨x1, x2⟩ | x1
     ·have y1 : ((48 : Int) ≤ (s[k].toNat : Int)) = False := eq_false (by omega)
      have y2 : ((97 : Int) ≤ (s[k].toNat : Int)) = False := eq_false (by omega)
      clear x1
      go_wp2
      go_ret
      exact ⟨by rw [HB.out]; rfl, rfl⟩
     ·have y1 : (48 : Int) ≤ (s[k].toNat : Int) := by omega
      have y3 : ((s[k].toNat : Int) ≤ 57) = False := eq_false (by omega)
      have y2 : ((97 : Int) ≤ (s[k].toNat : Int)) = False := eq_false (by omega)
      clear x1 x2
      go_wp2
      go_ret
      exact ⟨by rw [HB.out]; rfl, rfl⟩
     ·have y1 : (48 : Int) ≤ (s[k].toNat : Int) := by omega
      have y3 : ((s[k].toNat : Int) ≤ 57) = False := eq_false (by omega)
      have y2 : (97 : Int) ≤ (s[k].toNat : Int) := by omega
      have y4 : ((s[k].toNat : Int) ≤ 122) = False := eq_false (by omega)
      clear x1
      go_wp2
      go_ret
      exact ⟨by rw [HB.out]; rfl, rfl⟩
  ·have e := HALL.out
   rw [List.take_of_length_le (by have := HL.out; omega)] at e
   by_cases h0 : s.size = 0
   ·have hr : okN s.data.toList = false := by
     unfold okN
     rw [decide_eq_false (p := 0 < s.data.toList.length) (by have := HL.out; omega)]
     rfl
    have HR := hide hr
    have g0 : ((0 : Int) < (s.size : Int)) = False := eq_false (by omega)
    clear hr e
    go_wp2
    go_ret
    exact ⟨by rw [HR.out]; rfl, rfl⟩
   ·by_cases h1 : (s.size : Int) < 33
    ·have hr : okN s.data.toList = true := by
      unfold okN
      rw [e, decide_eq_true (p := 0 < s.data.toList.length) (by have := HL.out; omega), decide_eq_true (p := s.data.toList.length ≤ 32) (by have := HL.out; omega)]
      rfl
     have HR := hide hr
     have g0 : (0 : Int) < (s.size : Int) := by omega
     clear hr e
     go_wp2
     go_ret
     exact ⟨by rw [HR.out]; rfl, rfl⟩
    ·have hr : okN s.data.toList = false := by
      unfold okN
      rw [decide_eq_false (p := s.data.toList.length ≤ 32) (by have := HL.out; omega), Bool.and_false]
      rfl
     have HR := hide hr
     have g0 : (0 : Int) < (s.size : Int) := by omega
     clear hr e
     go_wp2
     go_ret
     exact ⟨by rw [HR.out]; rfl, rfl⟩
def Dk.why (st : Dk) (k : List UInt8) : Nat := if st.down then 22 else if okN k = false then 20 else if (get st.seen k).isSome then 0 else 21
theorem Dk.why_rdy (st : Dk) (k : List UInt8) : st.why k = if rdy st.down k ≠ 0 then rdy st.down k else if (get st.seen k).isSome then 0 else 21 := by
 unfold Dk.why rdy
 rcases st.down <;> rcases okN k <;> simp
theorem rwhy_any {w : World} {Z R : Nat → Prop} {g : Nat} {st : Dk} (h : RdIs w Z R g st) (ok : st.Ok) (s : ByteArray) (hs : s.size ≤ maxLen) : Calls Tryz.prog 78 #[.pointer (some ⟨g, 0, none⟩), .string s] w fun e w' => e = .returned (.int .i64 (st.why s.data.toList : Nat)) ∧ Chg w w' (fun _ => False) := by
 obtain ⟨vl, va, kp, tr, hh, _⟩ := h.parts
 have c3 := hh.c3
 have HF := hide (rfiles_any h ok)
 have HW0 : Hid (st.why s.data.toList = if st.down then 22 else if okN s.data.toList = false then 20 else if (get st.seen s.data.toList).isSome then 0 else 21) := hide rfl
 clear hh h ok
 rcases hd : st.down with _ | _
 ·rw [hd] at c3 HW0
  rcases hn : okN s.data.toList with _ | _
  ·rw [hn] at HW0
   have HNM := hide (rname_any s hs w)
   rw [hn] at HNM
   go_enter Tryz.func78, Tryz.ntmps78
   go_wp2_with fail
   refine HNM.out.mono ?_
   rintro e w1 ⟨rfl, rfl⟩
   go_wp2
   go_ret
   exact ⟨by rw [HW0.out]; rfl, Chg.refl _ _⟩
  ·rw [hn] at HW0
   have HNM := hide (rname_any s hs w)
   rw [hn] at HNM
   go_enter Tryz.func78, Tryz.ntmps78
   go_wp2_with fail
   refine HNM.out.mono ?_
   rintro e w1 ⟨rfl, rfl⟩
   go_wp2_with fail
   refine HF.out.mono ?_
   rintro e w2 ⟨p2, n2, c2, rfl, hf2, hc2⟩
   have HG := hide (rget_any hf2 s)
   have HC2 := hide hc2
   clear hf2 hc2
   go_wp2_with fail
   refine HG.out.mono ?_
   rintro e w3 ⟨q, m, d, rfl, _, _, hc3⟩
   have HC3 := hide (HC2.out.trans hc3 fun _ h => .inl h)
   clear hc3
   rcases hs : (get st.seen s.data.toList).isSome with _ | _
   all_goals
    rw [hs] at HW0
    go_wp2
    go_ret
    exact ⟨by rw [HW0.out]; rfl, HC3.out⟩
 ·rw [hd] at c3 HW0
  go_enter Tryz.func78, Tryz.ntmps78
  go_wp2
  go_ret
  exact ⟨by rw [HW0.out]; rfl, Chg.refl _ _⟩
end Go.Proofs.YtgbdjcekpdfpjaaGreatDoor
