import Derived.Test.YtgbdjcekpdfpjaaGreatDoorVo
import Derived.Test.YtgbdjcekpdfpjaaGreatDoorVn
import Derived.Test.YtgbdjcekpdfpjaaGreatDoorVRCheck
set_option linter.unusedVariables false
set_option linter.unusedSimpArgs false
namespace Go.Proofs.YtgbdjcekpdfpjaaGreatDoor
open Go.RowKit
structure RdI (w0 w : World) (g Bs : Nat) (u : Value) (h : List UInt8) (st : Nat × Nat) (i1 t1 : Int) (r : List Int) (vv : Value) (dd : List UInt8) (dv : Value) : Prop where
 sc : Sr w g u st.1 st.2
 by_ : By w u h
 at_ : st.1 ≤ h.length
 ne : h = [] ∨ ∀ k, u.ownBlock = some k → k < w0.heap.size
 gl : g = w0.heap.size
 bl : Bs = w0.heap.size + 1
 row : w.heap[Bs]? = some (.cells #[.int .i64 i1, .int .i64 t1, vv, dv] 42 (0, 0))
 vo : OwnN (w0.heap.size + 2) w vv r
 da : Own (w0.heap.size + 2) w dv dd
 ap : dd = [] ∨ ∀ k, vv.ownBlock = some k → dv.ownBlock ≠ some k
 bw : Below w0.heap.size w0 w
section
variable {w0 w : World} {g Bs : Nat} {u : Value} {h : List UInt8} {st : Nat × Nat} {i1 t1 : Int} {r : List Int} {vv : Value} {dd : List UInt8} {dv : Value}
theorem RdI.lt (H : RdI w0 w g Bs u h st i1 t1 r vv dd dv) : Bs < w.heap.size := (Array.getElem?_eq_some_iff.1 H.row).1
theorem RdI.below (H : RdI w0 w g Bs u h st i1 t1 r vv dd dv) {w' : World} (hb : Below w.heap.size w w') : RdI w0 w' g Bs u h st i1 t1 r vv dd dv :=
 ⟨(hb.block g (by have := H.lt; have := H.gl; have := H.bl; omega)).trans H.sc, H.by_.below hb, H.at_, H.ne, H.gl, H.bl, (hb.block Bs H.lt).trans H.row, H.vo.below hb, H.da.below hb, H.ap, H.bw.trans (hb.mono H.bw.size)⟩
theorem RdI.num (H : RdI w0 w g Bs u h st i1 t1 r vv dd dv) {w' : World} {st' : Nat × Nat} (hs : Sr w' g u st'.1 st'.2) (hg : w.grownBy w' (some g)) (ha : st'.1 ≤ h.length) : RdI w0 w' g Bs u h st' i1 t1 r vv dd dv := by
 have hgl := H.gl
 have hbl := H.bl
 have hbs := H.bw.size
 refine ⟨hs, H.by_.grown hg ?_, ha, H.ne, H.gl, H.bl, (hg.block Bs H.lt fun e => by injection e with e; omega).trans H.row, H.vo.grown hg (.inr fun e => by have := H.vo.lt g e; omega), H.da.grown hg fun k hk e => ?_, H.ap, ?_⟩
 ·rcases H.ne with e | e
  ·exact .inl e
  ·exact .inr fun k hk e2 => by have := e k hk; injection e2 with e2; omega
 ·injection e with e
  rcases H.da with ⟨e1, _⟩ | ⟨gj, cap, e1, hB, _⟩
  ·rw [e1] at hk; simp [Value.ownBlock] at hk
  ·rw [e1] at hk
   simp only [Value.ownBlock, Option.some.injEq] at hk
   omega
 ·exact Chg.to_below H.bw (Chg.of_grown hg (fun k => k = g) fun k e => by injection e with e; exact .inl e.symm) fun k e => by omega
theorem RdI.step (H : RdI w0 w g Bs u h st i1 t1 r vv dd dv) {p : Option Addr} {n c : Nat} (hu : u = .slice p n c) : ∀ {w1 : World}, Below w.heap.size w w1 → Calls Tryz.prog 91 #[.pointer (some ⟨g, 0, none⟩)] w1 fun e w' => e = .returned (.int .i64 ((nx h st).1 : Nat)) ∧ RdI w0 w' g Bs u h (nx h st).2 i1 t1 r vv dd dv ∧ w1.grownBy w' (some g) := fun {w1} hb => by
 have H1 := H.below hb
 subst hu
 obtain ⟨N, A, E, hN⟩ : ∃ n a' e', nx h st = (n, a', e') := ⟨_, _, _, rfl⟩
 have ha := (nx_le (l := h) (st := st) H.at_).1
 have h1 := refScanNumber_any H1.sc H1.by_ (by have := H1.by_.len.1; have := H.at_; omega) (show _ = (N, A, E) from hN)
 rw [hN] at ha ⊢
 exact h1.mono fun e' w' ⟨he, hs, hg⟩ => ⟨he, H1.num (st' := (A, E)) hs hg ha, hg⟩
theorem RdI.cells (H : RdI w0 w g Bs u h st i1 t1 r vv dd dv) : w.cell? ⟨Bs, 0, none⟩ = some (.int .i64 i1) ∧ w.cell? ⟨Bs, 1, none⟩ = some (.int .i64 t1) ∧ w.cell? ⟨Bs, 2, none⟩ = some vv ∧ w.cell? ⟨Bs, 3, none⟩ = some dv := by
 refine ⟨?_, ?_, ?_, ?_⟩
 ·rw [cell_of_row w _ 0 _ _ (0, 0) H.row]; rfl
 ·rw [cell_of_row w _ 1 _ _ (0, 0) H.row]; rfl
 ·rw [cell_of_row w _ 2 _ _ (0, 0) H.row]; rfl
 ·rw [cell_of_row w _ 3 _ _ (0, 0) H.row]; rfl
theorem RdI.fr (H : RdI w0 w g Bs u h st i1 t1 r vv dd dv) (i : Nat) : w.frozen? ⟨Bs, i, none⟩ = false := frozen_of_row w Bs i _ 42 H.row
theorem RdI.stored (H : RdI w0 w g Bs u h st i1 t1 r vv dd dv) (i : Nat) (x : Value) : Sr (w.setCell ⟨Bs, i, none⟩ x) g u st.1 st.2 ∧ By (w.setCell ⟨Bs, i, none⟩ x) u h ∧ (∀ v l, OwnN (w0.heap.size + 2) w v l → OwnN (w0.heap.size + 2) (w.setCell ⟨Bs, i, none⟩ x) v l) ∧ (∀ v l, Own (w0.heap.size + 2) w v l → Own (w0.heap.size + 2) (w.setCell ⟨Bs, i, none⟩ x) v l) ∧ Below w0.heap.size w0 (w.setCell ⟨Bs, i, none⟩ x) := by
 have hgl := H.gl
 have hbl := H.bl
 have hbs := H.bw.size
 have hlt := H.lt
 have hg : w.grownBy (w.setCell ⟨Bs, i, none⟩ x) (some Bs) := grown_set _ _ _ _
 refine ⟨(hg.block g (by omega) fun e => by injection e with e; omega).trans H.sc, H.by_.grown hg ?_, fun v l hv => hv.grown hg (.inr fun e => by have := hv.lt Bs e; omega), fun v l hv => hv.grown hg fun k hk e => ?_, ?_⟩
 ·rcases H.ne with e | e
  ·exact .inl e
  ·exact .inr fun k hk e2 => by have := e k hk; injection e2 with e2; omega
 ·injection e with e
  rcases hv with ⟨e1, _⟩ | ⟨gj, cap, e1, hB, _⟩
  ·rw [e1] at hk; simp [Value.ownBlock] at hk
  ·rw [e1] at hk
   simp only [Value.ownBlock, Option.some.injEq] at hk
   omega
 ·exact Chg.to_below H.bw (Chg.of_grown hg (fun k => k = Bs) fun k e => by injection e with e; exact .inl e.symm) fun k e => by omega
theorem RdI.set0 (H : RdI w0 w g Bs u h st i1 t1 r vv dd dv) (x : Int) : RdI w0 (w.setCell ⟨Bs, 0, none⟩ (.int .i64 x)) g Bs u h st x t1 r vv dd dv := by
 obtain ⟨a, b, c, d, e⟩ := H.stored 0 (.int .i64 x)
 exact ⟨a, b, H.at_, H.ne, H.gl, H.bl, by rw [heap_setCell_same _ _ _ _ _ _ H.row]; rfl, c _ _ H.vo, d _ _ H.da, H.ap, e⟩
theorem RdI.set1 (H : RdI w0 w g Bs u h st i1 t1 r vv dd dv) (x : Int) : RdI w0 (w.setCell ⟨Bs, 1, none⟩ (.int .i64 x)) g Bs u h st i1 x r vv dd dv := by
 obtain ⟨a, b, c, d, e⟩ := H.stored 1 (.int .i64 x)
 exact ⟨a, b, H.at_, H.ne, H.gl, H.bl, by rw [heap_setCell_same _ _ _ _ _ _ H.row]; rfl, c _ _ H.vo, d _ _ H.da, H.ap, e⟩
theorem RdI.push (H : RdI w0 w g Bs u h st i1 t1 r vv [] (.slice none 0 0)) {w9 : World} {v9 : Value} {x : Int} (h9 : w.grownBy w9 vv.ownBlock) (ho : OwnN (w0.heap.size + 2) w9 v9 (r ++ [x])) : RdI w0 (w9.setCell ⟨Bs, 2, none⟩ v9) g Bs u h st i1 t1 (r ++ [x]) v9 [] (.slice none 0 0) := by
 have hgl := H.gl
 have hbl := H.bl
 have hbs := H.bw.size
 have hlt := H.lt
 have hrow : ∀ k, vv.ownBlock = some k → w0.heap.size + 2 ≤ k := fun k hk => (H.vo.lt k hk).1
 have H9 : RdI w0 w9 g Bs u h st i1 t1 (r ++ [x]) v9 [] (.slice none 0 0) → RdI w0 (w9.setCell ⟨Bs, 2, none⟩ v9) g Bs u h st i1 t1 (r ++ [x]) v9 [] (.slice none 0 0) := fun H9 => by
  obtain ⟨a, b, c, d, e⟩ := H9.stored 2 v9
  exact ⟨a, b, H9.at_, H9.ne, H9.gl, H9.bl, by rw [heap_setCell_same _ _ _ _ _ _ H9.row]; rfl, c _ _ H9.vo, d _ _ H9.da, H9.ap, e⟩
 have hB : w9.heap[Bs]? = some (.cells #[.int .i64 i1, .int .i64 t1, vv, .slice none 0 0] 42 (0, 0)) := (h9.block Bs hlt fun e => by have := hrow Bs e.symm; omega).trans H.row
 have hsc : Sr w9 g u st.1 st.2 := (h9.block g (by omega) fun e => by have := hrow g e.symm; omega).trans H.sc
 have hby : By w9 u h := H.by_.grown h9 (H.ne.imp id fun e k hk e2 => by have := e k hk; have := hrow k e2; omega)
 have hbw : Below w0.heap.size w0 w9 := Chg.to_below H.bw (Chg.of_grown h9 (fun k => w0.heap.size + 2 ≤ k) fun k e => .inl (hrow k e)) fun k e => by omega
 -- the row is set whole
 have hg : w9.grownBy (w9.setCell ⟨Bs, 2, none⟩ v9) (some Bs) := grown_set _ _ _ _
 have hl9 : Bs < w9.heap.size := (Array.getElem?_eq_some_iff.1 hB).1
 exact ⟨(hg.block g (by omega) fun e => by injection e with e; omega).trans hsc, hby.grown hg (H.ne.imp id fun e k hk e2 => by have := e k hk; injection e2 with e2; omega), H.at_, H.ne, H.gl, H.bl, by rw [heap_setCell_same _ _ _ _ _ _ hB]; rfl, ho.grown hg (.inr fun e => by have := ho.lt Bs e; omega), Own.nil _ _, .inl rfl, Chg.to_below hbw (Chg.of_grown hg (fun k => k = Bs) fun k e => by injection e with e; exact .inl e.symm) fun k e => by omega⟩
theorem RdI.app (H : RdI w0 w g Bs u h st i1 t1 r vv dd dv) {w9 : World} {v9 : Value} {m : List UInt8} (h9 : w.grownBy w9 dv.ownBlock) (hbb : Below (w0.heap.size + 2) w w9) (ho : Own (w0.heap.size + 2) w9 v9 (dd ++ m)) (hk9 : ∀ k, v9.ownBlock = some k → dv.ownBlock = some k ∨ w.heap.size ≤ k) (hap : ∀ k, vv.ownBlock = some k → dv.ownBlock ≠ some k) : RdI w0 (w9.setCell ⟨Bs, 3, none⟩ v9) g Bs u h st i1 t1 r vv (dd ++ m) v9 ∧ ∀ k, vv.ownBlock = some k → v9.ownBlock ≠ some k := by
 have hgl := H.gl
 have hbl := H.bl
 have hbs := H.bw.size
 have hlt := H.lt
 have hB : w9.heap[Bs]? = some (.cells #[.int .i64 i1, .int .i64 t1, vv, dv] 42 (0, 0)) := (hbb.block Bs (by omega)).trans H.row
 have hsc : Sr w9 g u st.1 st.2 := (hbb.block g (by omega)).trans H.sc
 have hby : By w9 u h := H.by_.chgM hbb (H.ne.imp id fun e k hk => by have := e k hk; omega)
 have hbw : Below w0.heap.size w0 w9 := H.bw.trans (hbb.mono (by omega))
 have hvo : OwnN (w0.heap.size + 2) w9 vv r := by
  cases hv : vv.ownBlock with
  | none => exact H.vo.grown h9 (.inl hv)
  | some k => exact H.vo.grown h9 (.inr fun e => hap k hv (e.symm.trans hv))
 have hap9 : ∀ k, vv.ownBlock = some k → v9.ownBlock ≠ some k := fun k hk e => by
  rcases hk9 k e with h1 | h1
  ·exact hap k hk h1
  ·have := (H.vo.lt k hk).2; omega
 have hg : w9.grownBy (w9.setCell ⟨Bs, 3, none⟩ v9) (some Bs) := grown_set _ _ _ _
 have hl9 : Bs < w9.heap.size := (Array.getElem?_eq_some_iff.1 hB).1
 refine ⟨⟨(hg.block g (by omega) fun e => by injection e with e; omega).trans hsc, hby.grown hg (H.ne.imp id fun e k hk e2 => by have := e k hk; injection e2 with e2; omega), H.at_, H.ne, H.gl, H.bl, by rw [heap_setCell_same _ _ _ _ _ _ hB]; rfl, hvo.grown hg (.inr fun e => by have := hvo.lt Bs e; omega), ho.grown hg fun k hk e => ?_, .inr hap9, Chg.to_below hbw (Chg.of_grown hg (fun k => k = Bs) fun k e => by injection e with e; exact .inl e.symm) fun k e => by omega⟩, hap9⟩
 injection e with e
 rcases ho with ⟨e1, _⟩ | ⟨gj, cap, e1, hB2, _⟩
 ·rw [e1] at hk; simp [Value.ownBlock] at hk
 ·rw [e1] at hk
  simp only [Value.ownBlock, Option.some.injEq] at hk
  omega
theorem RdI.snv (H : RdI w0 w g Bs u h st i1 t1 r vv dd dv) (f0 : Go.Proofs.YtgbdjcekpdfpjaaGreatDoor.fits i1) (f1 : Go.Proofs.YtgbdjcekpdfpjaaGreatDoor.fits t1) : SnV w (.agg #[.int .i64 i1, .int .i64 t1, vv, dv]) ⟨i1, t1, r, dd⟩ := ⟨vv, dv, rfl, H.vo.ns, H.da.by_, f0, f1⟩
end
end Go.Proofs.YtgbdjcekpdfpjaaGreatDoor
