/- MachineBack (P9.4), second form: the machine of an image is as the one whose image it is, and goes on as that does. Condition: errors.errorType holds what the program's text lays there (the card ties it). -/
import Derived.Test.YtionbmlicmibgaaGreatDoorS10
import Derived.Test.YtionbmlicmibgaaGreatDoorMcPlay
import Derived.Test.YtionbmlicmibgaaGreatDoorMcCln
import Derived.Test.YtionbmlicmibgaaGreatDoorMcAw
import Derived.Test.YtionbmlicmibgaaGreatDoorRows
import Derived.Test.YtionbmlicmibgaaGreatDoorMcErr
import Derived.ChangeSame
import Derived.ChangeVars
import Derived.JoinedOf
import Derived.RowKit
import Derived.RowKitTokens
import Derived.LaidLaws
import Derived.LaidHandle
import Derived.Stop.Joined
import Derived.Test.YtionbmlicmibgaaGreatDoorMcMay
import Derived.Test.YtionbmlicmibgaaGreatDoorMcImg
import Derived.Test.YtionbmlicmibgaaGreatDoorMcEnt
import Derived.Test.YtionbmlicmibgaaGreatDoorCards
import Derived.Test.YtionbmlicmibgaaGreatDoorTie
import Derived.Test.YtionbmlicmibgaaGreatDoorMcArg
import Derived.SevenTiedAt
import Derived.Deep.DeepHandedRow
import Derived.WalkKit
import Derived.ProofKit
import Derived.OpenShut
import Derived.ShutString
import Derived.ChangeOld
import Derived.Below
import Derived.SizedLaws
namespace Go.Proofs.YtionbmlicmibgaaGreatDoor
set_option linter.unusedVariables false
set_option linter.unusedSimpArgs false
open Go.RowKit
theorem eqI_any {w : World} {B B' n : Nat} {v u : Value} {l : List Int} (hv : w.ownsRow B 3 1 v n (l.map (Value.int .i64))) (hu : w.ownsRow B' 3 1 u n (l.map (Value.int .i64))) : Calls Tryz.prog 30 #[v, u] w fun e w' => e = .returned (.bool true) ∧ Below w.heap.size w w' := by
 obtain ⟨p, c, rfl, hn, hm, hcl⟩ := ints_row hv
 obtain ⟨q, d, rfl, _, _, hcl2⟩ := ints_row hu
 have hmx : maxLen = 9223372036854775807 := rfl
 by_cases h0 : 0 < n
 ·obtain ⟨g, rfl, _, hc⟩ := hcl h0
  obtain ⟨g', rfl, _, hc'⟩ := hcl2 h0
  have e1 : ∀ j, (hj : j < l.length) → l.getD j 0 = l[j] := fun j hj => by simp [List.getD, hj]
  refine (Tryz.slices_Equal_int g 0 n c g' 0 n d l l w (by omega) (by omega) (by omega) (by omega) (fun j hj => by rw [e1 j hj, Nat.zero_add]; exact hc j _ (List.getElem?_eq_getElem hj)) (fun j hj => by rw [e1 j hj, Nat.zero_add]; exact hc' j _ (List.getElem?_eq_getElem hj))).mono fun e w' ⟨he, q, hw⟩ => ⟨?_, by rw [hw]; exact bdrew w q⟩
  rw [he]
  simp
 ·obtain rfl : n = 0 := by omega
  refine (Tryz.slices_Equal_int_empty p q c 0 d w (by omega)).mono fun e w' ⟨he, hw⟩ => ⟨?_, by rw [hw]; exact Below.refl _ _⟩
  rw [he]
  rfl
end Go.Proofs.YtionbmlicmibgaaGreatDoor
namespace Go.Proofs.YtionbmlicmibgaaGreatDoor
set_option linter.unusedVariables false
set_option linter.unusedSimpArgs false
open Go.RowKit
theorem bthen {w a b : World} (h : Below w.heap.size w a) (k : Below a.heap.size a b) : Below w.heap.size w b := h.trans (k.mono h.size)
theorem mimage_is {w : World} {gm : Nat} {P : Pm} {m : Mp} (h : MkIs w gm P m) : Calls Tryz.prog 39 #[.pointer (some ⟨gm, 0, none⟩)] w fun e w' => ∃ p n c, e = .returned (.slice p n c) ∧ Own w.heap.size w' (.slice p n c) (imgM m) ∧ Below w.heap.size w w' := by
 have h1 := imgS_len h.is.so.ok
 rw [h.is.pl] at h1
 have h2 := imgT_len h.is.tb.ok
 exact (mimage_any h (by omega) (by omega)).mono fun e w' ⟨v, he, ho, hb⟩ => by
  obtain ⟨p, n, c, rfl⟩ := ho.by_.sl
  exact ⟨p, n, c, he, ho, hb⟩
def TrsR (w : World) (v : Value) (m : Mp) : Prop := ∃ B, w.ownsRow B 3 1 v m.S.length ((m.S.map (·.1)).map (Value.int .i64))
theorem TrsR.below {w w' : World} {v : Value} {m : Mp} (h : TrsR w v m) (hb : Below w.heap.size w w') : TrsR w' v m := by
 obtain ⟨B, h⟩ := h
 exact ⟨B, row_below h hb⟩
theorem mtraces_is {w : World} {gm : Nat} {P : Pm} {m : Mp} (h : MkIs w gm P m) : Calls Tryz.prog 42 #[.pointer (some ⟨gm, 0, none⟩)] w fun e w' => ∃ p n c, e = .returned (.slice p n c) ∧ TrsR w' (.slice p n c) m ∧ Below w.heap.size w w' := (mtraces_tell h).mono fun e w' ⟨v, he, ho, hb⟩ => by
 have hl : P.R.length = m.S.length := by rw [← h.is.pl, List.length_map]
 rw [hl, tr_fst, h.is.pl] at ho
 obtain ⟨p, c, rfl, _⟩ := ints_row ho
 exact ⟨p, _, c, he, ⟨_, ho⟩, hb⟩
theorem eqTrs_any {w : World} {p : Option Addr} {n c : Nat} {p' : Option Addr} {n' c' : Nat} {m m' : Mp} (h : TrsR w (.slice p n c) m) (h' : TrsR w (.slice p' n' c') m') (e : m'.S.map (·.1) = m.S.map (·.1)) : Calls Tryz.prog 30 #[.slice p n c, .slice p' n' c'] w fun e w' => e = .returned (.bool true) ∧ Below w.heap.size w w' := by
 obtain ⟨B, h⟩ := h
 obtain ⟨B', h'⟩ := h'
 have hl : m'.S.length = m.S.length := by have := congrArg List.length e; simpa using this
 rw [e, hl] at h'
 exact eqI_any h h'
theorem nxt_ix {m : Mp} {i t : Int} (h : m.nxt i t = true) : i = m.ix + 1 := by
 unfold Mp.nxt at h
 simp at h
 exact h.1
end Go.Proofs.YtionbmlicmibgaaGreatDoor
namespace Go.Proofs.YtionbmlicmibgaaGreatDoor
set_option linter.unusedVariables false
set_option linter.unusedSimpArgs false
open Go.ChangeShapes Go.WideShapes Go.RowKit
theorem Tryz.own : ownKnob Tryz.prog.godebug = none := by kernel_rfl
theorem Tryz.et : Tryz.prog.globalNamed "errors.errorType" = some 0 := by kernel_rfl
theorem Tryz.rt : (Tryz.prog.cutTypes.find? (·.1 == "internal/reflectlite.rtype")).map (·.2) = some 242 := by kernel_rfl
theorem Tryz.oneRow : ((List.range 334).filter fun t => Tryz.prog.rowNamed t [101, 114, 114, 111, 114]) = [175] := by kernel_rfl
theorem Tryz.size : Tryz.prog.types.size = 334 := by kernel_rfl
def laidL : List (String × DataW Unit) := [("errors.errorType", Rows.laid_errors_errorType)]
theorem errT_of_laid {W : World} (h : laidMetH Tryz.prog laidL W) : ErrT W := by
 have h' : laidMet Tryz.prog [] W ∧ handlesMet Tryz.prog laidL W := h
 obtain ⟨name, u, ty, e1, e2, e3, e4, e5⟩ := h'.2 _ (List.mem_singleton.2 rfl)
 have en : name = [101, 114, 114, 111, 114] := (Option.some.inj e1).symm
 subst en
 obtain rfl := Option.some.inj (Tryz.rt.symm.trans e2)
 have hm : ty ∈ (List.range 334).filter fun t => Tryz.prog.rowNamed t [101, 114, 114, 111, 114] := List.mem_filter.2 ⟨List.mem_range.2 (by rw [← Tryz.size]; exact e3), e4⟩
 rw [Tryz.oneRow] at hm
 obtain rfl := List.mem_singleton.1 hm
 have hh : typeHandle Tryz.prog 175 = .pointer (some ⟨2, 175, none⟩) := by kernel_rfl
 rw [hh] at e5
 have h9 := World.var?_cell Tryz.et e5 0
 unfold ErrT
 simpa using h9
noncomputable def laidWorld (os : Os) : World :=
 let w0 := World.holding Tryz.prog os ⟨#[], #[], []⟩
 { w0 with heap := w0.heap.modify 0 fun
   | .cells _ t frozen => .cells #[.iface 242 (.agg #[.pointer (some ⟨2, 175, none⟩)])] t frozen
   | o => o }
theorem laidWorld_met (os : Os) (args : Array Value) : laidMetH Tryz.prog laidL ((laidWorld os).forCall (fun _ _ => 0) ⟨#[], args, []⟩).memory :=
 laidMetH_of_parts (laidMet_nil _ _) (by kernel_rfl)
end Go.Proofs.YtionbmlicmibgaaGreatDoor
namespace Go.Proofs.YtionbmlicmibgaaGreatDoor
set_option linter.unusedVariables false
set_option linter.unusedSimpArgs false
open Go.RowKit
def mlIx (l : List UInt8) : Nat := (nx l (0, 0)).1
def ml1 (l : List UInt8) : Nat × Nat := (nx l (0, 0)).2
def mlTm (l : List UInt8) : Nat := (nx l (ml1 l)).1
def ml2 (l : List UInt8) : Nat × Nat := (nx l (ml1 l)).2
def mlVo (l : List UInt8) : List Int := (rdV l (ml2 l)).1
def ml3 (l : List UInt8) : Nat × Nat := (rdV l (ml2 l)).2
def mlX (l : List UInt8) : List UInt8 := (tx l (l.length - (ml3 l).1) (ml3 l)).1
def ml4 (l : List UInt8) : Nat × Nat := (tx l (l.length - (ml3 l).1) (ml3 l)).2
def mlY (l : List UInt8) : List UInt8 := (tx l (l.length - (ml4 l).1) (ml4 l)).1
noncomputable def mlM (l : List UInt8) (L : List St) : Mp := ⟨(mlIx l : Nat), (mlTm l : Nat), mlVo l, ldS (mlX l), L⟩
def LdIn (w : World) (l : List UInt8) (e : Ending) (w' : World) : Prop :=
 (imgS (ldS (mlX l)) = mlX l ∧ ∃ L P, loadT (mlY l) = some L ∧ e = .returned (.tuple #[.pointer (some ⟨P.gi, 0, none⟩), .int .i64 0]) ∧ McIz w' P (mlM l L) ∧ (∀ k, McS P k → w.heap.size ≤ k)) ∨
 (¬ (imgS (ldS (mlX l)) = mlX l ∧ (loadT (mlY l)).isSome = true) ∧ ∃ x : Int, x ≠ 0 ∧ e = .returned (.tuple #[.pointer none, .int .i64 x]))
def RowZ (w : World) (b : Nat) (v0 v1 : Value) (i t : Int) (v4 : Value) : Prop := w.heap[b]? = some (.cells #[v0, v1, .int .i64 i, .int .i64 t, v4] 131 (0, 0))
section
variable {w w' : World} {b : Nat} {v0 v1 v4 : Value} {i t : Int}
theorem RowZ.fr (h : RowZ w b v0 v1 i t v4) (k : Nat) : w.frozen? ⟨b, k, none⟩ = false := frozen_of_row w b k _ 131 h
theorem RowZ.lt (h : RowZ w b v0 v1 i t v4) : b < w.heap.size := lt_of_cell (cell_of_row w b 0 _ 131 (0, 0) h)
theorem RowZ.below (h : RowZ w b v0 v1 i t v4) (hb : Below w.heap.size w w') : RowZ w' b v0 v1 i t v4 := (hb.block b h.lt).trans h
theorem RowZ.grown {row : Option Nat} (h : RowZ w b v0 v1 i t v4) (hg : w.grownBy w' row) (hne : row ≠ some b) : RowZ w' b v0 v1 i t v4 := (hg.block b h.lt (fun e => hne e.symm)).trans h
theorem RowZ.set0 (h : RowZ w b v0 v1 i t v4) (x : Value) : RowZ (w.setCell ⟨b, 0, none⟩ x) b x v1 i t v4 := by unfold RowZ at *; rw [heap_setCell_same w b 0 _ 131 _ h]; rfl
theorem RowZ.set1 (h : RowZ w b v0 v1 i t v4) (x : Value) : RowZ (w.setCell ⟨b, 1, none⟩ x) b v0 x i t v4 := by unfold RowZ at *; rw [heap_setCell_same w b 1 _ 131 _ h]; rfl
theorem RowZ.new (w : World) : RowZ (w.alloc (.cells #[v0, v1, .int .i64 i, .int .i64 t, v4] 131)) w.heap.size v0 v1 i t v4 := heap_alloc_new _ _
theorem RowZ.c (h : RowZ w b v0 v1 i t v4) : w.cell? ⟨b, 0, none⟩ = some v0 ∧ w.cell? ⟨b, 1, none⟩ = some v1 ∧ w.cell? ⟨b, 2, none⟩ = some (.int .i64 i) ∧ w.cell? ⟨b, 3, none⟩ = some (.int .i64 t) ∧ w.cell? ⟨b, 4, none⟩ = some v4 := ⟨cell_of_row w b 0 _ 131 (0, 0) h, cell_of_row w b 1 _ 131 (0, 0) h, cell_of_row w b 2 _ 131 (0, 0) h, cell_of_row w b 3 _ 131 (0, 0) h, cell_of_row w b 4 _ 131 (0, 0) h⟩
end
theorem bthenL {w a b : World} (h : Below w.heap.size w a) (k : Below a.heap.size a b) : Below w.heap.size w b := h.trans (k.mono h.size)
set_option maxRecDepth 200000 in
set_option maxHeartbeats 16000000 in
theorem mldin_any {w0 w : World} {g : Nat} {p : Option Addr} {n c : Nat} {l : List UInt8} (hE : ErrT w0) (h : ScB w0 g (.slice p n c) l w (0, 0)) (hl : l.length ≤ 400000) : Calls Tryz.prog 88 #[.pointer (some ⟨g, 0, none⟩)] w fun e w' => LdIn w l e w' ∧ Below w0.heap.size w0 w' ∧ w.grownBy w' (some g) := by
 have HL := hide (And.intro h.sc.lt (And.intro h.by_.ltM (And.intro h.b.size hl)))
 have HE := hide hE
 have N1 := hide (scn_any h)
 obtain ⟨s1, hs1⟩ : ∃ s, ml1 l = s := ⟨_, rfl⟩
 obtain ⟨IX, hIX⟩ : ∃ s, mlIx l = s := ⟨_, rfl⟩
 have hIXl := (nx_le (l := l) (st := (0, 0)) (Nat.zero_le _)).2
 rw [show (nx l (0, 0)).1 = IX from hIX] at hIXl
 rw [show (nx l (0, 0)).2 = s1 from hs1, show (nx l (0, 0)).1 = IX from hIX] at N1
 clear h hE
 go_enter Tryz.func88, Tryz.ntmps88
 go_wp2_with fail
 refine N1.out.mono ?_
 rintro e w1 ⟨rfl, hb1, hg1⟩
 have N2 := hide (scn_any hb1)
 have H1 := hide (And.intro hb1 hg1)
 obtain ⟨s2, hs2⟩ : ∃ s, ml2 l = s := ⟨_, rfl⟩
 obtain ⟨TM, hTM⟩ : ∃ s, mlTm l = s := ⟨_, rfl⟩
 have e1 : nx l s1 = (TM, s2) := by rw [← hs2, ← hTM, ← hs1]; rfl
 rw [e1] at N2
 have hTMl := (nx_le (l := l) (st := s1) hb1.at_).2
 rw [e1] at hTMl
 clear hb1 hg1 N1 e1
 go_wp2_with fail
 refine N2.out.mono ?_
 rintro e w2 ⟨rfl, hb2, hg2⟩
 have N3 := hide (mvoters_any hb2)
 have H2 := hide (And.intro hb2 (gtrans H1.out.2 hg2))
 obtain ⟨s3, hs3⟩ : ∃ s, ml3 l = s := ⟨_, rfl⟩
 obtain ⟨VO, hVO⟩ : ∃ s, mlVo l = s := ⟨_, rfl⟩
 have e2 : rdV l s2 = (VO, s3) := by rw [← hs3, ← hVO, ← hs2]; rfl
 rw [e2] at N3
 clear hb2 hg2 N2 e2
 go_wp2_with fail
 refine N3.out.mono ?_
 rintro e w3 ⟨qv, mv, fv, rfl, ho3, hb3, hg3⟩
 have HO3 : Hid (OwnN w.heap.size w3 (.slice qv mv fv) VO) := hide (ho3.mono H2.out.2.size)
 have H3 := hide (And.intro hb3 (gtrans H2.out.2 hg3))
 clear ho3 hb3 hg3 N3
 go_upto_region 3 with fail
 obtain ⟨X, hX⟩ : ∃ X, w3.alloc (.cells #[.pointer none, .pointer none, .int .i64 (IX : Nat), .int .i64 (TM : Nat), .slice qv mv fv] 131) = X := ⟨_, rfl⟩
 obtain ⟨gi, hgi⟩ : ∃ gi, w3.heap.size = gi := ⟨_, rfl⟩
 have hbX : Below w3.heap.size w3 X := by rw [← hX]; exact (Below.refl _ _).alloc (Nat.le_refl _) _
 have hrX : RowZ X gi (.pointer none) (.pointer none) (IX : Nat) (TM : Nat) (.slice qv mv fv) := by rw [← hX, ← hgi]; exact RowZ.new w3
 have HX := hide (And.intro (H3.out.1.below hbX) (And.intro (gtrans H3.out.2 (gof hbX _)) (And.intro hrX (HO3.out.below hbX))))
 have HGI : Hid (w.heap.size ≤ gi ∧ g < gi ∧ w3.heap.size = gi) := hide ⟨by rw [← hgi]; exact H3.out.2.size, by have := HL.out.1; have := H3.out.2.size; omega, hgi⟩
 rw [hX, hgi]
 clear hX hgi hbX hrX
 have T1 := hide (mtext_any HX.out.1 (by have := HL.out.2.2.2; omega))
 obtain ⟨s4, hs4⟩ : ∃ s, ml4 l = s := ⟨_, rfl⟩
 obtain ⟨TX, hTX⟩ : ∃ s, mlX l = s := ⟨_, rfl⟩
 have e3 : tx l (l.length - s3.1) s3 = (TX, s4) := by rw [← hs4, ← hTX, ← hs3]; rfl
 rw [e3] at T1
 have hTXl := tx_lenL (l := l) (most := l.length - s3.1) (st := s3)
 rw [e3] at hTXl
 clear e3
 go_wp2_with fail
 refine T1.out.mono ?_
 rintro e w4 ⟨q4, m4, f4, rfl, ho4, hb4, hg4⟩
 have H4 := hide (And.intro hb4 (And.intro (gtrans HX.out.2.1 hg4) (And.intro (HX.out.2.2.1.grown hg4 (by have := HGI.out.2; intro e; injection e with e; omega)) (HX.out.2.2.2.grown hg4 (HX.out.2.2.2.neRow HL.out.1)))))
 have HSL := hide (sload_any ho4.by_ (by have := HL.out.2.2.2; omega))
 clear ho4 hb4 hg4 T1
 go_wp2_with fail
 refine HSL.out.mono ?_
 intro e w5 hp
 rcases hp with ⟨himg, gs, bm, R, rfl, hso, hpl, hns, hb5⟩ | ⟨himg, rfl, hb5⟩
 case inr =>
  have H5 := hide (And.intro (H4.out.1.below hb5) (And.intro (gtrans H4.out.2.1 (gof hb5 _)) (H4.out.2.2.1.below hb5)))
  have HIM := hide himg
  have HS := hide (And.intro hs4 hTX)
  clear hb5 himg HSL
  obtain ⟨z0, z1, z2, z3, z4⟩ := H5.out.2.2.c
  have fr0 := H5.out.2.2.fr 0
  go_upto_region 4 with fail
  have hst := H5.out.2.2.set0 (.pointer none)
  have hcs := chg_set w5 gi 0 (.pointer none)
  obtain ⟨Y, hY⟩ : ∃ Y, w5.setCell ⟨gi, 0, none⟩ (.pointer none) = Y := ⟨_, rfl⟩
  rw [hY] at hst hcs ⊢
  have HY := hide (And.intro hst hcs)
  clear hst hcs hY z0 z1 z2 z3 z4 fr0
  go_wp2_with fail
  refine bodyPost_ret (v := .tuple #[.pointer none, .int .i64 70]) (by simp [results, Tryz.results88, go_sem]) rfl ?_
  refine ⟨.inr ⟨fun hh => ?_, 70, by decide, rfl⟩, ?_, ?_⟩
  ·rw [HS.out.2] at hh
   exact HIM.out hh.1
  ·exact Chg.to_below H5.out.1.b HY.out.2 (fun k e => by have := HGI.out.1; have := HL.out.2.2.1; omega)
  ·exact glate H5.out.2.1 (chg_belowB (B := w.heap.size) HY.out.2 (fun k e => by have := HGI.out.1; omega) H5.out.2.1.size)
 case inl =>
  have HS5 := hide (And.intro hso (And.intro hpl (And.intro hns hb5.size)))
  have H5 := hide (And.intro (H4.out.1.below hb5) (And.intro (gtrans H4.out.2.1 (gof hb5 _)) (And.intro (H4.out.2.2.1.below hb5) (H4.out.2.2.2.below hb5))))
  have HIM := hide himg
  have HG4 : Hid (gi < w4.heap.size) := hide H4.out.2.2.1.lt
  clear hb5 himg HSL hso hpl hns
  obtain ⟨z0, z1, z2, z3, z4⟩ := H5.out.2.2.1.c
  have fr0 := H5.out.2.2.1.fr 0
  go_upto_region 4 with fail
  have hst := H5.out.2.2.1.set0 (.pointer (some ⟨gs, 0, none⟩))
  have hcs := chg_set w5 gi 0 (.pointer (some ⟨gs, 0, none⟩))
  obtain ⟨Y, hY⟩ : ∃ Y, w5.setCell ⟨gi, 0, none⟩ (.pointer (some ⟨gs, 0, none⟩)) = Y := ⟨_, rfl⟩
  rw [hY] at hst hcs ⊢
  have HYS : Hid (w5.heap.size ≤ Y.heap.size) := hide hcs.size
  have hby : Below gi w5 Y := chg_belowB hcs (fun k e => Nat.le_of_eq e.symm) (Nat.le_of_lt H5.out.2.2.1.lt)
  have HY : Hid (RowZ Y gi (.pointer (some ⟨gs, 0, none⟩)) (.pointer none) (IX : Nat) (TM : Nat) (.slice qv mv fv) ∧ ScB w0 g (.slice p n c) l Y s4 ∧ w.grownBy Y (some g) ∧ SoIs Y gs bm R ∧ OwnN w.heap.size Y (.slice qv mv fv) VO) := hide ⟨hst, H5.out.1.later hby HGI.out.2.1 (by
    rcases HL.out.2.1 with e | e
    ·exact .inl e
    ·exact .inr fun k hk => by have := e k hk; have := HGI.out.1; omega) (by have := HL.out.2.2.1; have := HGI.out.1; omega), glate H5.out.2.1 (hby.mono HGI.out.1), HS5.out.1.chg hcs (fun k hk e => by have := HS5.out.2.2.1 k hk; have := HG4.out; omega), H5.out.2.2.2.chgB hcs (fun k hk e => by have h1 := (HO3.out.lt k hk).2; have h2 := HGI.out; omega)⟩
  clear hst hcs hY hby z0 z1 z2 z3 z4 fr0
  go_upto_region 6 with fail
  have T2 := hide (mtext_any HY.out.2.1 (by have := HL.out.2.2.2; omega))
  obtain ⟨s5, hs5⟩ : ∃ s, (tx l (l.length - s4.1) s4).2 = s := ⟨_, rfl⟩
  obtain ⟨TY, hTY⟩ : ∃ s, mlY l = s := ⟨_, rfl⟩
  have e3 : tx l (l.length - s4.1) s4 = (TY, s5) := by rw [← hs5, ← hTY, ← hs4]; rfl
  rw [e3] at T2
  have hTYl := tx_lenL (l := l) (most := l.length - s4.1) (st := s4)
  rw [e3] at hTYl
  clear e3 hs5
  go_wp2_with fail
  refine T2.out.mono ?_
  rintro e w6 ⟨q6, m6, f6, rfl, ho6, hb6, hg6⟩
  have HG6 : Hid (w4.heap.size ≤ Y.heap.size ∧ Y.heap.size ≤ w6.heap.size ∧ ∀ k, SoS gs bm R k → w4.heap.size ≤ k ∧ k < Y.heap.size) := hide ⟨by have h1 := HS5.out.2.2.2; have h2 := HYS.out; omega, hg6.size, fun k hk => ⟨HS5.out.2.2.1 k hk, HY.out.2.2.2.1.lt k hk⟩⟩
  have H6 : Hid (RowZ w6 gi (.pointer (some ⟨gs, 0, none⟩)) (.pointer none) (IX : Nat) (TM : Nat) (.slice qv mv fv) ∧ w.grownBy w6 (some g) ∧ SoIs w6 gs bm R ∧ OwnN w.heap.size w6 (.slice qv mv fv) VO ∧ Below w0.heap.size w0 w6) := hide ⟨HY.out.1.grown hg6 (by have := HGI.out.2.1; intro e; injection e with e; omega), gtrans HY.out.2.2.1 hg6, HY.out.2.2.2.1.chg (Chg.of_grown hg6 (fun k => k = g) (fun k e => by injection e with e; exact .inl e.symm)) (fun k hk e => by have h1 := (HG6.out.2.2 k hk).1; have h2 := HG4.out; have h3 := HGI.out.2.1; omega), HY.out.2.2.2.2.grown hg6 (HY.out.2.2.2.2.neRow HL.out.1), hb6.b⟩
  have HL6 := hide (ses_load_any ho6.by_ (by have := HL.out.2.2.2; omega))
  clear ho6 hb6 hg6 T2
  go_wp2_with fail
  refine HL6.out.mono ?_
  intro e w7 hp
  cases hLT : loadT TY with
  | none =>
   rw [hLT] at hp
   obtain ⟨rfl, hb7⟩ := hp
   have H7 := hide (And.intro (H6.out.1.below hb7) (And.intro (gtrans H6.out.2.1 (gof hb7 _)) (bthenL H6.out.2.2.2.2 hb7)))
   have HLT := hide hLT
   have HS := hide (And.intro hTX hTY)
   clear hb7 HL6 hLT
   obtain ⟨z0, z1, z2, z3, z4⟩ := H7.out.1.c
   have fr1 := H7.out.1.fr 1
   go_upto_region 7 with fail
   have hst := H7.out.1.set1 (.pointer none)
   have hcs := chg_set w7 gi 1 (.pointer none)
   obtain ⟨Z, hZ⟩ : ∃ Z, w7.setCell ⟨gi, 1, none⟩ (.pointer none) = Z := ⟨_, rfl⟩
   rw [hZ] at hst hcs ⊢
   have HZ := hide (And.intro hst hcs)
   clear hst hcs hZ z0 z1 z2 z3 z4 fr1
   go_wp2_with fail
   refine bodyPost_ret (v := .tuple #[.pointer none, .int .i64 83]) (by simp [results, Tryz.results88, go_sem]) rfl ?_
   refine ⟨.inr ⟨fun hh => ?_, 83, by decide, rfl⟩, ?_, ?_⟩
   ·rw [HS.out.2, HLT.out] at hh
    simp at hh
   ·exact Chg.to_below H7.out.2.2 HZ.out.2 (fun k e => by have := HGI.out.1; have := HL.out.2.2.1; omega)
   ·exact glate H7.out.2.1 (chg_belowB (B := w.heap.size) HZ.out.2 (fun k e => by have := HGI.out.1; omega) H7.out.2.1.size)
  | some L =>
   rw [hLT] at hp
   obtain ⟨rfl, htb⟩ := hp
   have hb7 := htb.below
   have H7 := hide (And.intro (H6.out.1.below hb7) (And.intro (gtrans H6.out.2.1 (gof hb7 _)) (And.intro (bthenL H6.out.2.2.2.2 hb7) (And.intro (H6.out.2.2.1.below hb7) (And.intro (H6.out.2.2.2.1.below hb7) htb.tb)))))
   have HLT := hide hLT
   have HS := hide (And.intro hTX hTY)
   have HN := hide (And.intro hIX (And.intro hTM hVO))
   have HB7 := hide (And.intro H6.out.1.lt hb7.size)
   clear hb7 HL6 hLT htb
   obtain ⟨z0, z1, z2, z3, z4⟩ := H7.out.1.c
   have fr1 := H7.out.1.fr 1
   obtain ⟨bt, hbt⟩ : ∃ b, w6.heap.size = b := ⟨_, rfl⟩
   obtain ⟨gt, hgt⟩ : ∃ b, bt + 1 = b := ⟨_, rfl⟩
   rw [hbt, hgt] at H7 ⊢
   have HBT := hide (And.intro hbt hgt)
   clear hbt hgt
   go_upto_region 7 with fail
   have hst := H7.out.1.set1 (.pointer (some ⟨gt, 0, none⟩))
   have hcs := chg_set w7 gi 1 (.pointer (some ⟨gt, 0, none⟩))
   obtain ⟨Z, hZ⟩ : ∃ Z, w7.setCell ⟨gi, 1, none⟩ (.pointer (some ⟨gt, 0, none⟩)) = Z := ⟨_, rfl⟩
   rw [hZ] at hst hcs ⊢
   have HZ := hide (And.intro hst hcs)
   clear hst hcs hZ z0 z1 z2 z3 z4 fr1
   go_wp2_with fail
   refine bodyPost_ret (v := .tuple #[.pointer (some ⟨gi, 0, none⟩), .int .i64 0]) (by simp [results, Tryz.results88, go_sem]) rfl ?_
   have s1 := HGI.out
   have s2 := HG6.out
   have s3 := HB7.out
   have s4 := HBT.out
   have s5 := HG4.out
   have hsb : ∀ k, SoS gs bm R k → gi < k ∧ k < bt ∧ k < gt := fun k hk => by have := s2.2.2 k hk; omega
   have hvb : ∀ k, (Value.slice qv mv fv).ownBlock = some k → w.heap.size ≤ k ∧ k < gi := fun k hk => by have h1 := (HO3.out.lt k hk); omega
   have hw0 : 0 < w.heap.size := by have h1 := HE.out.pos; have h2 := HL.out.2.2.1; omega
   refine ⟨.inl ⟨by rw [HS.out.1]; exact HIM.out, L, ⟨gi, gs, bm, gt, bt, R, .slice qv mv fv⟩, by rw [HS.out.2]; exact HLT.out, rfl, ?_, ?_⟩, ?_, ?_⟩
   ·refine ⟨?_, H7.out.2.2.2.1.chg HZ.out.2 (fun k hk e => by have := hsb k hk; omega), ?_, H7.out.2.2.2.2.2.chg HZ.out.2 (fun e => by omega) (fun e => by omega), ?_, ?_, fun k hk => by have := hsb k hk; dsimp only; omega, ⟨by dsimp only; omega, by dsimp only; omega⟩, fun k hk => ?_, ?_⟩
    ·have h1 := HZ.out.1
     unfold RowM mlM
     dsimp only
     rw [HN.out.1, HN.out.2.1]
     exact h1
    ·show R.map Tr.pl = ldS (mlX l)
     rw [HS.out.1]
     exact HS5.out.2.1
    ·show OwnN 0 Z (.slice qv mv fv) (mlVo l)
     rw [HN.out.2.2]
     exact (H7.out.2.2.2.2.1.chgB HZ.out.2 (fun k hk e => by have := hvb k hk; omega)).mono (Nat.zero_le _)
    ·exact HE.out.below (Chg.to_below H7.out.2.2.1 HZ.out.2 (fun k e => by have := HL.out.2.2.1; omega))
    ·have h1 := hvb k hk
     exact ⟨by dsimp only; omega, by dsimp only; omega, by dsimp only; omega, fun e => by have := hsb k e; omega⟩
    ·intro k hk
     rcases hk with e | e | e | e | e
     ·have e : k = gi := e; omega
     ·have e : k = gt := e; omega
     ·have e : k = bt := e; omega
     ·have := hsb k e; omega
     ·have := hvb k e; omega
   ·intro k hk
    rcases hk with e | e | e | e | e
    ·have e : k = gi := e; omega
    ·have e : k = gt := e; omega
    ·have e : k = bt := e; omega
    ·have := hsb k e; omega
    ·have := hvb k e; omega
   ·exact Chg.to_below H7.out.2.2.1 HZ.out.2 (fun k e => by have := HL.out.2.2.1; omega)
   ·exact glate H7.out.2.1 (chg_belowB (B := w.heap.size) HZ.out.2 (fun k e => by omega) H7.out.2.1.size)
end Go.Proofs.YtionbmlicmibgaaGreatDoor
namespace Go.Proofs.YtionbmlicmibgaaGreatDoor
set_option linter.unusedVariables false
set_option linter.unusedSimpArgs false
open Go.RowKit
def MlPost (w : World) (l : List UInt8) (e : Ending) (w' : World) : Prop :=
 ((∃ L gm P, (loadT (mlY l) = some L ∧ imgS (ldS (mlX l)) = mlX l ∧ mayB (mlM l L) = true ∧ imgM (mlM l L) = l) ∧ e = .returned (.tuple #[.pointer (some ⟨gm, 0, none⟩), .int .i64 0]) ∧ MkIs w' gm P (mlM l L) ∧ (∀ k, McS P k → w.heap.size ≤ k) ∧ w.heap.size ≤ gm) ∨
 ((∀ L, loadT (mlY l) = some L → imgS (ldS (mlX l)) = mlX l → mayB (mlM l L) = true → imgM (mlM l L) ≠ l) ∧ e = .returned (.tuple #[.pointer none, .int .i64 70]))) ∧ Below w.heap.size w w'
theorem mayB_ok {m : Mp} (h : mayB m = true) (hi : 0 ≤ m.ix) (ht : 0 ≤ m.tm) : m.Ok := by
 unfold mayB at h
 simp at h
 exact ⟨hi, by omega, ht, by omega, h.2.2.2.1⟩
theorem bytesEq_any {W : World} {v u : Value} {l k : List UInt8} (h1 : By W v l) (h2 : By W u k) : Calls Tryz.prog 20 #[v, u] W fun e w' => e = .returned (.bool (l == k)) ∧ W = w' := equal_any h1 h2
set_option maxRecDepth 200000 in
set_option maxHeartbeats 16000000 in
theorem mload_any {w : World} (hE : ErrT w) {p : Option Addr} {n c : Nat} {l : List UInt8} (hv : By w (.slice p n c) l) (hl : l.length ≤ 400000) : Calls Tryz.prog 35 #[.slice p n c] w (MlPost w l) := by
 have HE := hide hE
 have HV := hide hv
 have HL := hide hl
 have OV := hide (over_any hv (by omega))
 clear hE hv hl
 go_enter Tryz.func35, Tryz.ntmps35
 go_wp2_with fail
 refine OV.out.mono ?_
 rintro e w1 ⟨g, u, rfl, hg, hsc, hou, hne, hb1⟩
 obtain ⟨pu, nu, cu, rfl⟩ := hou.by_.sl
 have HB1 := hide hb1
 have HLD := hide (mldin_any (w0 := w) HE.out ⟨hsc, hou.by_, hne, Nat.zero_le _, hg, hb1⟩ HL.out)
 clear hg hsc hou hne hb1 OV
 go_wp2_with fail
 refine HLD.out.mono ?_
 rintro e w2 ⟨hld, hb2, hg2⟩
 have HB2 : Hid (Below w.heap.size w w2) := hide hb2
 clear hb2 hg2 HLD
 rcases hld with ⟨himg, L, P, hlt, rfl, hmz, hfr⟩ | ⟨hno, x, hx0, rfl⟩
 case inr =>
  have HNO := hide hno
  have e1 : (x != 0) = true := by simpa using hx0
  clear hno hx0
  go_wp2_with fail
  refine bodyPost_ret (v := .tuple #[.pointer none, .int .i64 70]) (by simp [results, Tryz.results35, go_sem]) rfl ?_
  exact ⟨.inr ⟨fun L h1 h2 _ _ => HNO.out ⟨h2, by rw [h1]; rfl⟩, rfl⟩, HB2.out⟩
 case inl =>
  have HF := hide (And.intro himg hlt)
  have HZ := hide hmz
  have HFR : Hid (∀ k, McS P k → w.heap.size ≤ k) := hide fun k hk => Nat.le_trans HB1.out.size (hfr k hk)
  obtain ⟨M, hM⟩ : ∃ m, mlM l L = m := ⟨_, rfl⟩
  rw [hM] at HZ
  have HI0 : Hid (0 ≤ M.ix ∧ 0 ≤ M.tm) := hide (by rw [← hM]; unfold mlM; dsimp only; omega)
  have HM := hide hM
  obtain ⟨gi, hgi⟩ : ∃ k, P.gi = k := ⟨_, rfl⟩
  have HMB := hide (mmaybe_any HZ.out)
  rw [hgi] at HMB ⊢
  have HGI := hide hgi
  clear himg hlt hmz hfr hM hgi
  go_wp2_with fail
  refine HMB.out.mono ?_
  rintro e w3 ⟨rfl, hb3⟩
  have HZ3 := hide (HZ.out.below hb3)
  have HB3 : Hid (Below w.heap.size w w3) := hide (bthen HB2.out hb3)
  clear hb3 HMB
  cases hmb : mayB M with
  | false =>
   have HN := hide hmb
   clear hmb
   go_wp2_with fail
   refine bodyPost_ret (v := .tuple #[.pointer none, .int .i64 70]) (by simp [results, Tryz.results35, go_sem]) rfl ?_
   refine ⟨.inr ⟨fun L' h1 _ h3 _ => ?_, rfl⟩, HB3.out⟩
   rw [HF.out.2] at h1
   injection h1 with h1
   rw [← h1, HM.out, HN.out] at h3
   cases h3
  | true =>
   have HOK := hide (mayB_ok hmb HI0.out.1 HI0.out.2)
   have HIS := hide (HZ3.out.is HOK.out)
   have HIM := hide (mimg_any HIS.out (by have h1 := imgS_len HIS.out.so.ok; rw [HIS.out.pl] at h1; omega) (by have h2 := imgT_len HIS.out.tb.ok; omega))
   have HN := hide hmb
   rw [HGI.out] at HIM
   clear hmb
   go_wp2_with fail
   refine HIM.out.mono ?_
   rintro e w4 ⟨v4, rfl, ho4, hb4⟩
   obtain ⟨p4, n4, c4, rfl⟩ := ho4.by_.sl
   have HB4 : Hid (Below w.heap.size w w4) := hide (bthen HB3.out hb4)
   have HEQ := hide (bytesEq_any ho4.by_ (HV.out.below HB4.out))
   have HI4 := hide (HIS.out.below hb4)
   obtain ⟨Q, hQ⟩ : ∃ q, (imgM M == l) = q := ⟨_, rfl⟩
   rw [hQ] at HEQ
   have HQ := hide hQ
   clear ho4 hb4 HIM hQ
   go_wp2_with fail
   refine HEQ.out.mono ?_
   rintro e w5 ⟨rfl, rfl⟩
   cases Q with
   | false =>
    go_wp2_with fail
    refine bodyPost_ret (v := .tuple #[.pointer none, .int .i64 70]) (by simp [results, Tryz.results35, go_sem]) rfl ?_
    refine ⟨.inr ⟨fun L' h1 _ _ h4 => ?_, rfl⟩, HB4.out⟩
    rw [HF.out.2] at h1
    injection h1 with h1
    rw [← h1, HM.out] at h4
    have := HQ.out
    rw [h4] at this
    simp at this
   | true =>
    have hbA := (Below.refl w4.heap.size w4).alloc (Nat.le_refl _) (.cells #[.pointer (some ⟨gi, 0, none⟩)] 99)
    have hrA := heap_alloc_new w4 (.cells #[.pointer (some ⟨gi, 0, none⟩)] 99)
    have HA := hide (And.intro hbA hrA)
    clear hbA hrA
    go_wp2_with fail
    refine bodyPost_ret (v := .tuple #[.pointer (some ⟨w4.heap.size, 0, none⟩), .int .i64 0]) (by simp [results, Tryz.results35, go_sem]) rfl ?_
    refine ⟨.inl ⟨L, w4.heap.size, P, ⟨HF.out.2, HF.out.1, by rw [HM.out]; exact HN.out, by rw [HM.out]; simpa using HQ.out⟩, rfl, ?_, HFR.out, HB4.out.size⟩, bthen HB4.out HA.out.1⟩
    rw [HM.out]
    refine ⟨by rw [HGI.out]; exact HA.out.2, HI4.out.below HA.out.1, fun e => by have := HI4.out.lt _ e; omega, fun e => ?_⟩
    have h1 := HE.out.pos
    have h2 := HB4.out.size
    omega
end Go.Proofs.YtionbmlicmibgaaGreatDoor
namespace Go.Proofs.YtionbmlicmibgaaGreatDoor
set_option linter.unusedVariables false
set_option linter.unusedSimpArgs false
open Go.RowKit
theorem ml_img {m : Mp} (h : m.Ok) (hS : SoOk m.S) (hL : TbOk m.L) : mlIx (imgM m) = m.ix.toNat ∧ mlTm (imgM m) = m.tm.toNat ∧ mlVo (imgM m) = m.vo ∧ mlX (imgM m) = imgS m.S ∧ mlY (imgM m) = imgT m.L := by
 obtain ⟨q1, q2⟩ := okR_len h.vo
 have hi0 := h.i0
 have hi1 := h.i1
 have ht0 := h.t0
 have ht1 := h.t1
 have l1 := imgS_len hS
 have l2 := imgT_len hL
 have hb : (imgM m).drop 0 = digits m.ix.toNat ++ (digits m.tm.toNat ++ (digits m.vo.length ++ (nmB m.vo ++ (digits (imgS m.S).length ++ (imgS m.S ++ (digits (imgT m.L).length ++ (imgT m.L ++ []))))))) := by
  unfold imgM
  simp [nmB_cons, txB, show nmB [] = [] from rfl]
 generalize imgM m = l at hb
 have n1 := nx_digits (l := l) (a := 0) (n := m.ix.toNat) (by omega) hb
 have hb1 := drop_more hb
 have n2 := nx_digits (l := l) (n := m.tm.toNat) (by omega) hb1
 have hb2 := drop_more hb1
 have n3 := nx_digits (l := l) (n := m.vo.length) (by omega) hb2
 have hb3 := drop_more hb2
 have n4 := rdN_at (l := l) m.vo (fun n hn => by have := q2 n hn; omega) hb3
 have hb4 := drop_more hb3
 have hl := congrArg List.length hb4
 rw [List.length_drop, List.length_append, List.length_append] at hl
 have hp := digits_pos (imgS m.S).length
 have e1 : ml1 l = (0 + (digits m.ix.toNat).length, 0) := by unfold ml1; rw [n1]
 have e2 : ml2 l = (0 + (digits m.ix.toNat).length + (digits m.tm.toNat).length, 0) := by unfold ml2; rw [e1, n2]
 have e3 : rdV l (ml2 l) = (m.vo, 0 + (digits m.ix.toNat).length + (digits m.tm.toNat).length + (digits m.vo.length).length + (nmB m.vo).length, 0) := by
  unfold rdV
  rw [e2, n3]
  dsimp only
  rw [Nat.min_eq_left (by omega), n4]
 have e4 : ml3 l = (0 + (digits m.ix.toNat).length + (digits m.tm.toNat).length + (digits m.vo.length).length + (nmB m.vo).length, 0) := by unfold ml3; rw [e3]
 have t1 := tx_digitsL (l := l) (most := l.length - (0 + (digits m.ix.toNat).length + (digits m.tm.toNat).length + (digits m.vo.length).length + (nmB m.vo).length)) (x := imgS m.S) (by omega) (by omega) (by omega) hb4
 have hb5 := drop_more (drop_more hb4)
 have hl2 := congrArg List.length hb5
 rw [List.length_drop, List.length_append, List.length_append] at hl2
 have hp2 := digits_pos (imgT m.L).length
 have e5 : ml4 l = (0 + (digits m.ix.toNat).length + (digits m.tm.toNat).length + (digits m.vo.length).length + (nmB m.vo).length + (digits (imgS m.S).length).length + (imgS m.S).length, 0) := by
  unfold ml4
  rw [e4]
  dsimp only
  rw [t1]
 have t2 := tx_digitsL (l := l) (most := l.length - (0 + (digits m.ix.toNat).length + (digits m.tm.toNat).length + (digits m.vo.length).length + (nmB m.vo).length + (digits (imgS m.S).length).length + (imgS m.S).length)) (x := imgT m.L) (by omega) (by omega) (by omega) hb5
 refine ⟨by unfold mlIx; rw [n1], by unfold mlTm; rw [e1, n2], by unfold mlVo; rw [e3], ?_, ?_⟩
 ·unfold mlX
  rw [e4]
  dsimp only
  rw [t1]
 ·unfold mlY
  rw [e5]
  dsimp only
  rw [t2]
structure Like (m m' : Mp) : Prop where
 ix : m'.ix = m.ix
 tm : m'.tm = m.tm
 vo : m'.vo = m.vo
 L : m'.L = m.L
 S : nrm m.S = nrm m'.S
theorem Like.img {m m' : Mp} (h : Like m m') : imgM m' = imgM m := by
 have h1 := nrm_img m.S
 have h2 := nrm_img m'.S
 rw [h.S] at h1
 unfold imgM
 rw [h.ix, h.tm, h.vo, h.L, ← h2, h1]
theorem Like.fst {m m' : Mp} (h : Like m m') : m'.S.map (·.1) = m.S.map (·.1) := by
 have h1 := nrm_fst m.S
 have h2 := nrm_fst m'.S
 rw [h.S, h2] at h1
 exact h1
theorem Like.of_img {m : Mp} (h : m.Ok) (hS : SoOk m.S) (hL : TbOk m.L) : Like m (mlM (imgM m) m.L) := by
 obtain ⟨h1, h2, h3, h4, h5⟩ := ml_img h hS hL
 have hi0 := h.i0
 have ht0 := h.t0
 unfold mlM
 rw [h1, h2, h3, h4, ld_img hS]
 exact ⟨by dsimp only; omega, by dsimp only; omega, rfl, rfl, (nrm_nrm _).symm⟩
theorem Like.cmd {m m' : Mp} (h : Like m m') (hS : SoOk m.S) (hS' : SoOk m'.S) : ∀ c : Option Cm, (cmdM m' c).1 = (cmdM m c).1 ∧ (cmdM m' c).2.1 = (cmdM m c).2.1 ∧ Like (cmdM m c).2.2 (cmdM m' c).2.2
 | none => ⟨rfl, rfl, h⟩
 | some c => by
  obtain ⟨e1, e2⟩ := ing_eqv hS hS' h.S c.sp
  obtain ⟨e3, e4⟩ := ret_eqv h.S c.a
  have e5 : m'.S.length = m.S.length := by
   have := congrArg List.length h.fst
   simpa using this
  unfold cmdM
  dsimp only
  split
  ·rw [h.ix, h.L]
   exact ⟨rfl, rfl, ⟨rfl, h.tm, h.vo, rfl, h.S⟩⟩
  ·split
   ·unfold ingM
    rw [h.L]
    split
    ·exact ⟨rfl, rfl, h⟩
    ·rw [h.ix, ← e2]
     exact ⟨rfl, rfl, ⟨rfl, h.tm, h.vo, rfl, e1⟩⟩
   ·split
    ·rw [h.L]
     exact ⟨rfl, rfl, ⟨h.ix, h.tm, h.vo, rfl, h.S⟩⟩
    ·split
     ·dsimp only
      rw [e5, ← e4]
      exact ⟨rfl, rfl, ⟨h.ix, h.tm, h.vo, h.L, e3⟩⟩
     ·split
      ·exact ⟨rfl, rfl, ⟨h.ix, h.tm, rfl, h.L, h.S⟩⟩
      ·exact ⟨rfl, rfl, h⟩
theorem Like.app {m m' : Mp} (h : Like m m') (hS : SoOk m.S) (hS' : SoOk m'.S) (i t : Int) (l : List UInt8) : (appM m' i t l).1 = (appM m i t l).1 ∧ (appM m' i t l).2.1 = (appM m i t l).2.1 ∧ Like (appM m i t l).2.2 (appM m' i t l).2.2 := by
 have hx : m'.nxt i t = m.nxt i t := by unfold Mp.nxt; rw [h.ix, h.tm]
 have h1 : Like { m with ix := i, tm := t } { m' with ix := i, tm := t } := ⟨rfl, rfl, h.vo, h.L, h.S⟩
 obtain ⟨a1, a2, a3⟩ := h1.cmd hS hS' (getC l)
 unfold appM
 rw [hx]
 split
 ·unfold doM
  rw [a1, a2]
  split
  ·exact ⟨rfl, rfl, a3⟩
  ·exact ⟨rfl, rfl, a3⟩
 ·exact ⟨rfl, rfl, h⟩
structure RchM (m : Mp) : Prop where
 it : m.ix = 0 ↔ m.tm = 0
 i0 : 0 ≤ m.ix
 st : ∀ x ∈ m.L, x.s ≤ m.ix ∧ x.a ≤ m.ix
theorem RchM.cmd {m : Mp} (h : RchM m) (hi : 1 ≤ m.ix) : ∀ c : Option Cm, RchM (cmdM m c).2.2
 | none => h
 | some c => by
  unfold cmdM
  dsimp only
  split
  ·refine ⟨h.it, h.i0, fun x hx => ?_⟩
   dsimp only at hx ⊢
   unfold openT at hx
   split at hx
   ·exact h.st x hx
   ·split at hx
    ·exact h.st x hx
    ·dsimp only at hx
     rcases mem_insT' hx with rfl | hx
     ·exact ⟨Int.le_refl _, Int.le_refl _⟩
     ·exact h.st x hx
  ·split
   ·unfold ingM
    split
    ·exact h
    ·rename_i hask
     refine ⟨h.it, h.i0, fun x hx => ?_⟩
     dsimp only at hx ⊢
     unfold keepT at hx
     split at hx
     ·exact h.st x hx
     ·rename_i h0
      split at hx
      ·exact h.st x hx
      ·split at hx
       ·dsimp only at hx
        rcases mem_insT' hx with rfl | hx
        ·obtain ⟨y, hy⟩ := askT_some (L := m.L) (s := c.se) (q := c.sq) (by omega)
         obtain ⟨hy1, hy2⟩ := fndT_mem hy
         have := h.st y hy1
         exact ⟨by dsimp only; omega, Int.le_refl _⟩
        ·exact h.st x hx
       ·exact h.st x hx
   ·split
    ·exact ⟨h.it, h.i0, fun x hx => h.st x (List.mem_filter.1 hx).1⟩
    ·split
     ·exact ⟨h.it, h.i0, h.st⟩
     ·split
      ·exact ⟨h.it, h.i0, h.st⟩
      ·exact h
theorem RchM.app {m : Mp} (h : RchM m) (i t : Int) (l : List UInt8) : RchM (appM m i t l).2.2 := by
 unfold appM
 split
 ·rename_i hx
  have h1 := nxt_ix hx
  have h2 : 1 ≤ t := by
   unfold Mp.nxt btw at hx
   simp at hx
   omega
  have h0 := h.i0
  have hr : RchM { m with ix := i, tm := t } := ⟨by dsimp only; omega, by dsimp only; omega, fun x hx => by have := h.st x hx; dsimp only; omega⟩
  have := hr.cmd (by dsimp only; omega) (getC l)
  unfold doM
  split <;> exact this
 ·exact h
theorem RchM.play {m : Mp} (h : RchM m) : ∀ D : List Dm, RchM (playM m D) := by
 intro D
 unfold playM
 induction D generalizing m with
 | nil => exact h
 | cons d r ih => exact ih (m := stepM m d) (h.app _ _ _)
theorem RchM.zero : RchM ⟨0, 0, [0, 1, 2], [], []⟩ := ⟨by simp, Int.le_refl _, fun x hx => by cases hx⟩
theorem RchM.may {m : Mp} (h : RchM m) (hk : m.Ok) : mayB m = true := by
 have h1 := hk.i1
 have h2 := hk.t1
 have h3 := h.it
 have h4 : seatsIn m.ix m.L = true := List.all_eq_true.2 fun x hx => by have := h.st x hx; simp; omega
 unfold mayB
 rw [h4, hk.vo]
 have h5 : (m.ix == 0) = (m.tm == 0) := by
  rw [Bool.eq_iff_iff]
  simp
  exact h3
 rw [h5]
 simp
 omega
theorem Like.may {m m' : Mp} (h : Like m m') : mayB m' = mayB m := by
 unfold mayB
 rw [h.ix, h.tm, h.vo, h.L]
end Go.Proofs.YtionbmlicmibgaaGreatDoor
namespace Go.Proofs.YtionbmlicmibgaaGreatDoor
set_option linter.unusedVariables false
set_option linter.unusedSimpArgs false
open Go.RowKit
def EntP2 (w : World) (d : Dm) (ix t : Int) (e : Ending) (w' : World) : Prop := ∃ p n c, e = .returned (.agg #[.int .i64 (d.eI ix), .int .i64 (d.eT t), .slice p n c]) ∧ By w' (.slice p n c) d.eL ∧ Below w.heap.size w w' ∧ (((p = d.p3 ∧ n = d.n3 ∧ c = d.d3) ∧ d.eL = d.by_) ∨ ∀ (A : Nat → Prop) U, Chg w' U A → (∀ k, A k → k < w.heap.size) → By U (.slice p n c) d.eL)
theorem Own.byFar {B : Nat} {A : Nat → Prop} {w w' : World} {v : Value} {l : List UInt8} (h : Own B w v l) (hc : Chg w w' A) (hA : ∀ k, A k → k < B) : By w' v l := by
 rcases h with ⟨rfl, rfl⟩ | ⟨g, cap, rfl, hB, hl, hm, hx, _, _⟩
 ·exact By.nil _
 ·refine ⟨some ⟨g, 0, none⟩, cap, rfl, hl, hm, (fun e => by cases e), fun a ha i x hi => ?_⟩
  injection ha with ha
  subst ha
  rw [add_lit0, Nat.zero_add]
  exact hc.cell (hx i x hi) (fun e => by have := hA g e; omega)
set_option maxRecDepth 200000 in
set_option maxHeartbeats 8000000 in
theorem mentry2_any {w : World} {d : Dm} (h : DmIn w d) (hnm : ∀ x ∈ d.sp, x.n.size ≤ 1100000) {ix t : Int} (hix : 0 ≤ ix ∧ ix ≤ 1099511627776) (ht : 0 ≤ t ∧ t ≤ 1099511627776) : Calls Tryz.prog 31 #[.agg (dmC d).toArray, .int .i64 ix, .int .i64 t] w (EntP2 w d ix t) := by
 obtain ⟨op, k, se, sq, a, p1, n1, d1, p2, n2, d2, tm, ei, et, p3, n3, d3, sp, vo, by_⟩ := d
 have HIN := hide h
 have HCM : Hid (CmAt w (.slice p1 n1 d1) (.slice p2 n2 d2) ⟨k, se, sq, a, sp, vo⟩) := hide ⟨h.sp, h.vo, hnm⟩
 have HDT := hide (dtK_le tm)
 have hb0 := (Below.refl w.heap.size w).alloc (Nat.le_refl _) (.cells #[.int .i64 op, .int .i64 k, .int .i64 se, .int .i64 sq, .int .i64 a, .slice p1 n1 d1, .slice p2 n2 d2, .int .i64 tm, .int .i64 ei, .int .i64 et, .slice p3 n3 d3] 57)
 have hb1 := hb0.alloc (o := .cells #[.int .i64 0, .int .i64 0, .slice none 0 0] 55) hb0.size
 have hs0 : (w.alloc (.cells #[.int .i64 op, .int .i64 k, .int .i64 se, .int .i64 sq, .int .i64 a, .slice p1 n1 d1, .slice p2 n2 d2, .int .i64 tm, .int .i64 ei, .int .i64 et, .slice p3 n3 d3] 57)).heap.size = w.heap.size + 1 := by simp
 have hr1 : RowE ((w.alloc (.cells #[.int .i64 op, .int .i64 k, .int .i64 se, .int .i64 sq, .int .i64 a, .slice p1 n1 d1, .slice p2 n2 d2, .int .i64 tm, .int .i64 ei, .int .i64 et, .slice p3 n3 d3] 57)).alloc (.cells #[.int .i64 0, .int .i64 0, .slice none 0 0] 55)) (w.heap.size + 1) 0 0 (.slice none 0 0) := by unfold RowE; rw [← hs0]; exact heap_alloc_new _ _
 have hr0 : ((w.alloc (.cells #[.int .i64 op, .int .i64 k, .int .i64 se, .int .i64 sq, .int .i64 a, .slice p1 n1 d1, .slice p2 n2 d2, .int .i64 tm, .int .i64 ei, .int .i64 et, .slice p3 n3 d3] 57)).alloc (.cells #[.int .i64 0, .int .i64 0, .slice none 0 0] 55)).heap[w.heap.size]? = some (.cells #[.int .i64 op, .int .i64 k, .int .i64 se, .int .i64 sq, .int .i64 a, .slice p1 n1 d1, .slice p2 n2 d2, .int .i64 tm, .int .i64 ei, .int .i64 et, .slice p3 n3 d3] 57 (0, 0)) := (((Below.refl _ (w.alloc (.cells #[.int .i64 op, .int .i64 k, .int .i64 se, .int .i64 sq, .int .i64 a, .slice p1 n1 d1, .slice p2 n2 d2, .int .i64 tm, .int .i64 ei, .int .i64 et, .slice p3 n3 d3] 57))).alloc (Nat.le_refl _) (.cells #[.int .i64 0, .int .i64 0, .slice none 0 0] 55)).block w.heap.size (by omega)).trans (heap_alloc_new w (.cells #[.int .i64 op, .int .i64 k, .int .i64 se, .int .i64 sq, .int .i64 a, .slice p1 n1 d1, .slice p2 n2 d2, .int .i64 tm, .int .i64 ei, .int .i64 et, .slice p3 n3 d3] 57))
 have hix1 : IntKind.i64.wrap (ix + 1) = ix + 1 := IntWalk.i64_in _ (by omega)
 obtain ⟨Q, hQ⟩ : ∃ q, dqK op = q := ⟨_, rfl⟩
 have hQ' : wrap64 ((IntKind.u64.wrap op).tmod 6) = Q := hQ
 obtain ⟨M, hM⟩ : ∃ q, max t 1 = q := ⟨_, rfl⟩
 have hM2 : 1 ≤ M ∧ M ≤ 1099511627776 := by omega
 unfold dmC
 dsimp only
 unfold EntP2 Dm.eI Dm.eT Dm.eL Dm.c
 dsimp only
 rw [hQ]
 clear h hnm
 obtain ⟨X, hX⟩ : ∃ X, (w.alloc (.cells #[.int .i64 op, .int .i64 k, .int .i64 se, .int .i64 sq, .int .i64 a, .slice p1 n1 d1, .slice p2 n2 d2, .int .i64 tm, .int .i64 ei, .int .i64 et, .slice p3 n3 d3] 57)).alloc (.cells #[.int .i64 0, .int .i64 0, .slice none 0 0] 55) = X := ⟨_, rfl⟩
 obtain ⟨b, hb⟩ : ∃ b, w.heap.size = b := ⟨_, rfl⟩
 obtain ⟨r, hr⟩ : ∃ r, b + 1 = r := ⟨_, rfl⟩
 rw [hX] at hb1 hr1 hr0
 have HBX : Hid (Below w.heap.size w X) := hide hb1
 rw [hb] at hr0 hr1
 rw [hr] at hr1
 have HRB : Hid (w.heap.size ≤ r) := hide (by omega)
 have HR1 := hide hr1
 have HR0 := hide hr0
 have cc : ∀ i u, #[.int .i64 op, .int .i64 k, .int .i64 se, .int .i64 sq, .int .i64 a, .slice p1 n1 d1, .slice p2 n2 d2, .int .i64 tm, .int .i64 ei, .int .i64 et, .slice p3 n3 d3][i]? = some u → X.cell? ⟨b, i, none⟩ = some u := fun i u hi => (cell_of_row X b i _ 57 (0, 0) hr0).trans hi
 have x0 := cc 0 _ rfl
 have x1 := cc 1 _ rfl
 have x2 := cc 2 _ rfl
 have x3 := cc 3 _ rfl
 have x4 := cc 4 _ rfl
 have x5 := cc 5 _ rfl
 have x6 := cc 6 _ rfl
 have x7 := cc 7 _ rfl
 have x8 := cc 8 _ rfl
 have x9 := cc 9 _ rfl
 have x10 := cc 10 _ rfl
 obtain ⟨z0, z1, z2⟩ := hr1.z
 obtain ⟨f0, f1, f2⟩ := hr1.f
 clear hb0 hb1 hs0 hr1 hr0 cc
 by_cases h5 : Q = 5
 ·have e5 : (Q == 5) = true := by simpa using h5
  rw [if_pos h5, if_pos h5, if_pos h5]
  go_enter Tryz.func31, Tryz.ntmps31
  go_wp2_with fail
  have hst := HR1.out.set ei et (.slice p3 n3 d3)
  have hcs := chgS (chgS (chg_set X r 0 (.int .i64 ei)) (chg_set (X.setCell ⟨r, 0, none⟩ (.int .i64 ei)) r 1 (.int .i64 et))) (chg_set ((X.setCell ⟨r, 0, none⟩ (.int .i64 ei)).setCell ⟨r, 1, none⟩ (.int .i64 et)) r 2 (.slice p3 n3 d3))
  have HBZ := hide (Chg.to_below HBX.out hcs (fun j e => by rw [e]; exact HRB.out))
  refine bodyPost_ret (v := .agg #[.int .i64 ei, .int .i64 et, (.slice p3 n3 d3)]) (by
   generalize ((X.setCell ⟨r, 0, none⟩ (.int .i64 ei)).setCell ⟨r, 1, none⟩ (.int .i64 et)).setCell ⟨r, 2, none⟩ (.slice p3 n3 d3) = W9 at hst ⊢
   obtain ⟨m0, m1, m2⟩ := hst.z
   simp [results, Tryz.results31, go_sem, m0, m1, m2]) rfl ?_
  exact ⟨_, _, _, rfl, HIN.out.by_.below HBZ.out, HBZ.out, .inl ⟨⟨by trivial, by trivial, by trivial⟩, by trivial⟩⟩
 ·have e5 : (Q == 5) = false := by simpa using h5
  rw [if_neg h5, if_neg h5, if_neg h5]
  by_cases h4 : Q = 4
  ·have e4 : (Q == 4) = true := by simpa using h4
   rw [if_pos h4, if_pos h4]
   rw [hM]
   go_enter Tryz.func31, Tryz.ntmps31
   go_wp2_with fail
   have hst := HR1.out.set (ix + 1) M (.slice p3 n3 d3)
   have hcs := chgS (chgS (chg_set X r 0 (.int .i64 (ix + 1))) (chg_set (X.setCell ⟨r, 0, none⟩ (.int .i64 (ix + 1))) r 1 (.int .i64 M))) (chg_set ((X.setCell ⟨r, 0, none⟩ (.int .i64 (ix + 1))).setCell ⟨r, 1, none⟩ (.int .i64 M)) r 2 (.slice p3 n3 d3))
   have HBZ := hide (Chg.to_below HBX.out hcs (fun j e => by rw [e]; exact HRB.out))
   refine bodyPost_ret (v := .agg #[.int .i64 (ix + 1), .int .i64 M, (.slice p3 n3 d3)]) (by
    generalize ((X.setCell ⟨r, 0, none⟩ (.int .i64 (ix + 1))).setCell ⟨r, 1, none⟩ (.int .i64 M)).setCell ⟨r, 2, none⟩ (.slice p3 n3 d3) = W9 at hst ⊢
    obtain ⟨m0, m1, m2⟩ := hst.z
    simp [results, Tryz.results31, go_sem, m0, m1, m2]) rfl ?_
   exact ⟨_, _, _, rfl, HIN.out.by_.below HBZ.out, HBZ.out, .inl ⟨⟨by trivial, by trivial, by trivial⟩, by trivial⟩⟩
  ·have e4 : (Q == 4) = false := by simpa using h4
   rw [if_neg h4, if_neg h4]
   rw [hM]
   obtain ⟨Z, hZ⟩ : ∃ q, dtK tm = q := ⟨_, rfl⟩
   have hZ' : wrap64 ((IntKind.u64.wrap tm).tmod 2) = Z := hZ
   rw [hZ] at HDT ⊢
   have hMZ : IntKind.i64.wrap (M + Z) = M + Z := IntWalk.i64_in _ (by have := HDT.out; omega)
   have HPU := hide (putP_is (rput_any (HCM.out.below HBX.out)))
   unfold cmV at HPU
   dsimp only at HPU
   go_enter Tryz.func31, Tryz.ntmps31
   go_wp2_with fail
   refine HPU.out.mono ?_
   rintro e w8 ⟨p8, n8, d8, rfl, hby8, hb8⟩
   have HB8 : Hid (Below w.heap.size w w8) := hide (HBX.out.trans (hb8.mono HBX.out.size))
   have HR2 := hide (HR1.out.below hb8)
   have HBY := hide hby8
   have hrr0 := (hb8.block b (Array.getElem?_eq_some_iff.1 HR0.out).1).trans HR0.out
   clear z0 z1 z2 f0 f1 f2 x0 x1 x2 x3 x4 x5 x6 x7 x8 x9 x10
   have x7 : w8.cell? ⟨b, 7, none⟩ = some (.int .i64 tm) := cell_of_row w8 b 7 _ 57 (0, 0) hrr0
   obtain ⟨z0, z1, z2⟩ := HR2.out.z
   obtain ⟨f0, f1, f2⟩ := HR2.out.f
   clear hby8 hb8 HPU hrr0
   go_wp2_with fail
   have hst := HR2.out.set (ix + 1) (M + Z) (.slice p8 n8 d8)
   have hcs := chgS (chgS (chg_set w8 r 0 (.int .i64 (ix + 1))) (chg_set (w8.setCell ⟨r, 0, none⟩ (.int .i64 (ix + 1))) r 1 (.int .i64 (M + Z)))) (chg_set ((w8.setCell ⟨r, 0, none⟩ (.int .i64 (ix + 1))).setCell ⟨r, 1, none⟩ (.int .i64 (M + Z))) r 2 (.slice p8 n8 d8))
   have HBZ := hide (Chg.to_below HB8.out hcs (fun j e => by rw [e]; exact HRB.out))
   refine bodyPost_ret (v := .agg #[.int .i64 (ix + 1), .int .i64 (M + Z), (.slice p8 n8 d8)]) (by
    generalize ((w8.setCell ⟨r, 0, none⟩ (.int .i64 (ix + 1))).setCell ⟨r, 1, none⟩ (.int .i64 (M + Z))).setCell ⟨r, 2, none⟩ (.slice p8 n8 d8) = W9 at hst ⊢
    obtain ⟨m0, m1, m2⟩ := hst.z
    simp [results, Tryz.results31, go_sem, m0, m1, m2]) rfl ?_
   exact ⟨_, _, _, rfl, (HBY.out.byOff hcs (by have := HR1.out.lt; omega)), HBZ.out, .inr (fun A U hU hA => HBY.out.byFar (Chg.trans (hcs.mono (S' := fun k => k = r ∨ A k) (fun k e => .inl e)) hU (fun k e => .inl (.inr e))) (fun k e => by
    have h1 := HR1.out.lt
    have h2 := HBX.out.size
    rcases e with rfl | e
    ·exact h1
    ·have := hA k e; omega))⟩
end Go.Proofs.YtionbmlicmibgaaGreatDoor
namespace Go.Proofs.YtionbmlicmibgaaGreatDoor
set_option linter.unusedVariables false
set_option linter.unusedSimpArgs false
open Go.RowKit
section
variable {w0 w w' : World} {ga gb gc : Nat} {Pa Pb Pc Pa' : Pm} {a b c a' : Mp}
theorem MkIs.zone (h : MkIs w ga Pa a) : ∀ k, (k = ga ∨ McS Pa k) → k < w.heap.size := fun k hk => by
 rcases hk with rfl | hk
 ·exact h.lt
 ·exact h.is.lt k hk
theorem equalS_any {W : World} {v u : Value} {l : List UInt8} (h1 : By W v l) (h2 : By W u l) : Calls Tryz.prog 20 #[v, u] W fun e w' => e = .returned (.bool true) ∧ W = w' := by
 have h := equal_any h1 h2
 rw [beq_self_eq_true] at h
 exact h
theorem mapply_ts {m : Mp} {gm : Nat} {P : Pm} (h : MkIs w gm P m) {ix tm : Int} {v : Value} {l : List UInt8} (hv : By w v l) (hl : l.length ≤ 1100000) : Calls Tryz.prog 32 #[.pointer (some ⟨gm, 0, none⟩), .agg #[.int .i64 ix, .int .i64 tm, v]] w fun e w' => e = .returned (.tuple #[rpV (appM m ix tm l).1, .int .i64 (appM m ix tm l).2.1]) ∧ ∃ P', McTs w w' gm P P' (appM m ix tm l).2.2 :=
 (mapply_any h hv hl).mono fun e w' ⟨h1, P', h2, h3⟩ => ⟨h1, P', h3, h2.gi, h2.new, h2.chg.mono (fun k e => e.sub)⟩
end
end Go.Proofs.YtionbmlicmibgaaGreatDoor
namespace Go.Proofs.YtionbmlicmibgaaGreatDoor
set_option linter.unusedVariables false
set_option linter.unusedSimpArgs false
open Go.RowKit
structure Duo (w0 w : World) (ga gb : Nat) (Pa Pb : Pm) (a b : Mp) : Prop where
 a : MkIs w ga Pa a
 b : MkIs w gb Pb b
 ab : ∀ k, (k = ga ∨ McS Pa k) → (k = gb ∨ McS Pb k) → False
 la : ∀ k, (k = ga ∨ McS Pa k) → w0.heap.size ≤ k
 lb : ∀ k, (k = gb ∨ McS Pb k) → w0.heap.size ≤ k
 bel : Below w0.heap.size w0 w
section
variable {w0 w w' : World} {ga gb : Nat} {Pa Pb Pa' : Pm} {a b a' : Mp}
theorem Duo.rot (h : Duo w0 w ga gb Pa Pb a b) : Duo w0 w gb ga Pb Pa b a := ⟨h.b, h.a, fun k h1 h2 => h.ab k h2 h1, h.lb, h.la, h.bel⟩
theorem Duo.below (h : Duo w0 w ga gb Pa Pb a b) (hb : Below w.heap.size w w') : Duo w0 w' ga gb Pa Pb a b := ⟨h.a.below hb, h.b.below hb, h.ab, h.la, h.lb, bthen h.bel hb⟩
theorem Duo.step (h : Duo w0 w ga gb Pa Pb a b) (ht : McTs w w' ga Pa Pa' a') : Duo w0 w' ga gb Pa' Pb a' b := by
 have hz : ∀ k, (k = ga ∨ McS Pa' k) → (k = ga ∨ McS Pa k) ∨ w.heap.size ≤ k := fun k hk => by
  rcases hk with e | e
  ·exact .inl (.inl e)
  ·rcases ht.new k e with e | e
   ·exact .inl (.inr e)
   ·exact .inr e
 have hlow := h.bel.size
 exact ⟨ht.am, h.b.chgS ht.chg (fun k hk e => h.ab k (.inr e) (.inr hk)) (fun e => h.a.is.nz 0 e rfl) (fun e => h.ab gb (.inr e) (.inl rfl)),
  fun k hk hk2 => by
   rcases hz k hk with e | e
   ·exact h.ab k e hk2
   ·have := h.b.zone k hk2; omega,
  fun k hk => by
   rcases hz k hk with e | e
   ·exact h.la k e
   ·omega, h.lb, Chg.to_below h.bel ht.chg (fun k e => h.la k (.inr e))⟩
theorem Duo.beg (h0 : Below w0.heap.size w0 w) (ha : MkIs w ga Pa a) (la : ∀ k, (k = ga ∨ McS Pa k) → w0.heap.size ≤ k) (hb : MkIs w' gb Pb b) (nb : ∀ k, McS Pb k → w.heap.size ≤ k) (kb : w.heap.size ≤ gb) (b2 : Below w.heap.size w w') : Duo w0 w' ga gb Pa Pb a b := by
 have s0 := h0.size
 have za := ha.zone
 have yb : ∀ k, (k = gb ∨ McS Pb k) → w.heap.size ≤ k := fun k hk => by
  rcases hk with rfl | hk
  ·exact kb
  ·exact nb k hk
 exact ⟨ha.below b2, hb, fun k h1 h2 => by have := za k h1; have := yb k h2; omega, la, fun k h1 => by have := yb k h1; omega, bthen h0 b2⟩
theorem MkIs.soOk (h : MkIs w ga Pa a) : SoOk a.S := by
 have h1 := h.is.so.ok
 rw [h.is.pl] at h1
 exact h1
end
theorem ml_all {m : Mp} (h : m.Ok) (hS : SoOk m.S) (hL : TbOk m.L) (hr : RchM m) : loadT (mlY (imgM m)) = some m.L ∧ imgS (ldS (mlX (imgM m))) = mlX (imgM m) ∧ mayB (mlM (imgM m) m.L) = true ∧ imgM (mlM (imgM m) m.L) = imgM m := by
 obtain ⟨h1, h2, h3, h4, h5⟩ := ml_img h hS hL
 have hk := Like.of_img h hS hL
 refine ⟨by rw [h5, loadT_put hL], by rw [h4, ld_img_ok hS], by rw [hk.may]; exact hr.may h, hk.img⟩
theorem imgM_len {m : Mp} (h : m.Ok) (hS : SoOk m.S) (hL : TbOk m.L) : (imgM m).length ≤ 400000 := by
 obtain ⟨q1, q2⟩ := okR_len h.vo
 have l1 := imgS_len hS
 have l2 := imgT_len hL
 have hi0 := h.i0
 have hi1 := h.i1
 have ht0 := h.t0
 have ht1 := h.t1
 have n1 := nmB_len [m.ix, m.tm, (m.vo.length : Int)] (by simp; omega)
 have n2 := nmB_len m.vo (fun n hn => by have := q2 n hn; omega)
 have d1 := digits_length (imgS m.S).length (by omega)
 have d2 := digits_length (imgT m.L).length (by omega)
 unfold imgM txB
 simp only [List.length_append, List.length_cons, List.length_nil] at *
 omega
end Go.Proofs.YtionbmlicmibgaaGreatDoor
namespace Go.Proofs.YtionbmlicmibgaaGreatDoor
set_option linter.unusedVariables false
set_option linter.unusedSimpArgs false
open Go.RowKit
set_option maxRecDepth 200000 in
set_option maxHeartbeats 16000000 in
theorem lawMBack_any {w : World} (hE : ErrT w) {p0 : Option Addr} {n0 c0 : Nat} {D0 : List Dm} (hD0 : Dms w (.slice p0 n0 c0) D0) (hbk0 : ∀ d ∈ D0, d.by_.length ≤ 1048576) {p : Option Addr} {n c : Nat} {D : List Dm} (hD : Dms w (.slice p n c) D) (hbk : ∀ d ∈ D, d.by_.length ≤ 1048576) : Calls Tryz.prog 8 #[.slice p0 n0 c0, .slice p n c] w fun e w' => e = .returned (.bool true) ∧ Below w.heap.size w w' := by
 have HE := hide hE
 have HD0 := hide hD0
 have HD := hide hD
 have HBK := hide (And.intro hbk hbk0)
 have HN : Hid (D.length = n ∧ n ≤ c ∧ c ≤ maxLen) := hide (by
  obtain ⟨_, _, e1, a1, a2, _⟩ := hD
  injection e1 with _ e1 e3
  subst e3
  omega)
 have HSH := hide (mshort_any hD0)
 have hn9 : (n : Int) ≤ 9223372036854775807 := by have := HN.out; unfold maxLen at this; omega
 clear hE hD hD0 hbk hbk0
 go_enter Tryz.func8, Tryz.ntmps8
 go_wp2_with fail
 refine HSH.out.mono ?_
 rintro e w1 ⟨⟨q, rfl, hq0⟩, hb1⟩
 have HB1 := hide hb1
 have HQ0 := hide hq0
 clear hb1 hq0 HSH
 cases q
 ·go_wp2_with fail
  refine (mawake_any (HE.out.below HB1.out)).mono ?_
  rintro e wz ⟨rfl, hbz⟩
  go_wp2_with fail
  go_ret
  exact ⟨rfl, bthen HB1.out hbz⟩
 ·go_wp2_with fail
  refine (mshort_any (HD.out.below HB1.out)).mono ?_
  rintro e w2 ⟨⟨q2, rfl, hq⟩, hb2⟩
  have HB2 := hide (bthen HB1.out hb2)
  have HQ := hide hq
  clear hb2 hq
  cases q2
  ·go_wp2_with fail
   refine (mawake_any (HE.out.below HB2.out)).mono ?_
   rintro e wz ⟨rfl, hbz⟩
   go_wp2_with fail
   go_ret
   exact ⟨rfl, bthen HB2.out hbz⟩
  ·go_wp2_with fail
   refine (mbegun_any (HE.out.below HB2.out)).mono ?_
   rintro e w3 ⟨ga, P0, rfl, hm3, hn3, hg3, hb3⟩
   have HB3 := hide (bthen HB2.out hb3)
   have HM3 := hide hm3
   have HN3 : Hid (∀ k, (k = ga ∨ McS P0 k) → w.heap.size ≤ k) := hide (fun k hk => by
    have := HB2.out.size
    rcases hk with rfl | hk
    ·omega
    ·have := hn3 k hk; omega)
   clear hm3 hn3 hg3 hb3
   have HDP : Hid (∀ W, Chg w3 W (McS P0) → Dms W (.slice p0 n0 c0) D0) := hide fun W hW => HD0.out.below (Chg.to_below HB3.out hW (fun k e => HN3.out k (.inr e)))
   go_wp2_with fail
   refine (mplay_any HM3.out HDP.out (HQ0.out trivial).2 HBK.out.2).mono ?_
   rintro e w4 ⟨rfl, Pa, hts⟩
   have HRC0 := hide (RchM.zero.play D0)
   obtain ⟨M, hM⟩ : ∃ m5, playM ⟨0, 0, [0, 1, 2], [], []⟩ D0 = m5 := ⟨_, rfl⟩
   rw [hM] at hts HRC0
   have HB4 : Hid (Below w.heap.size w w4) := hide (Chg.to_below HB3.out hts.chg (fun k e => HN3.out k (.inr e)))
   have HM4 := hide hts.am
   have HN4 : Hid (∀ k, (k = ga ∨ McS Pa k) → w.heap.size ≤ k) := hide (fun k hk => by
    rcases hk with e | e
    ·exact HN3.out k (.inl e)
    ·rcases hts.new k e with e | e
     ·exact HN3.out k (.inr e)
     ·have := HB3.out.size; omega)
   clear hts hM HDP HM3
   go_wp2_with fail
   refine (mimage_is HM4.out).mono ?_
   rintro e w5 ⟨p5, n5, c5, rfl, ho5, hb5⟩
   have HB5 := hide (bthen HB4.out hb5)
   have HM5 := hide (HM4.out.below hb5)
   have HLD := hide (mload_any (HE.out.below HB5.out) ho5.by_ (imgM_len HM4.out.is.ok HM4.out.soOk HM4.out.is.tb.ok))
   clear ho5 hb5 HM4
   go_wp2_with fail
   refine HLD.out.mono ?_
   rintro e w6 ⟨hld, hb6⟩
   have HALL := hide (ml_all HM5.out.is.ok HM5.out.soOk HM5.out.is.tb.ok HRC0.out)
   rcases hld with ⟨L, gb, Pb, ⟨h1, _, _, _⟩, rfl, hmb, hfb, hgb⟩ | ⟨hno, rfl⟩
   case inr => exact absurd HALL.out.2.2.2 (hno _ HALL.out.1 HALL.out.2.1 HALL.out.2.2.1)
   have hLL : M.L = L := by
    have h2 := HALL.out.1
    rw [h1] at h2
    injection h2 with h2
    exact h2.symm
   rw [← hLL] at hmb
   have HLK0 := hide (Like.of_img HM5.out.is.ok HM5.out.soOk HM5.out.is.tb.ok)
   obtain ⟨M', hM'⟩ : ∃ m, mlM (imgM M) M.L = m := ⟨_, rfl⟩
   rw [hM'] at hmb HLK0
   have HT0 : Hid (Duo w w6 ga gb Pa Pb M M') := hide (Duo.beg HB5.out HM5.out HN4.out hmb hfb hgb hb6)
   clear hLL h1 hM' hmb hfb hgb hb6 HLD HALL
   go_wp2_with fail
   refine (mimage_is HT0.out.b).mono ?_
   rintro e w7 ⟨q7, r7, s7, rfl, o7, b7⟩
   rw [HLK0.out.img] at o7
   have HO7 := hide o7.by_
   have HT7 := hide (HT0.out.below b7)
   clear o7 b7
   go_wp2_with fail
   refine (mimage_is HT7.out.a).mono ?_
   rintro e w8 ⟨q8, r8, s8, rfl, o8, b8⟩
   have HE8 := hide (equalS_any (HO7.out.below b8) o8.by_)
   have HTS8 := hide (HT7.out.below b8)
   clear o8 b8 HO7
   go_wp2_with fail
   refine HE8.out.mono ?_
   rintro e v ⟨rfl, rfl⟩
   clear HT0 HT7 HE8
   go_wp2_with fail
   go_loopw [52] (fun i wr => ∃ j : Nat, j ≤ n ∧ i = .int .i64 j ∧ Hid (∃ Pa Pb m m', Duo w wr ga gb Pa Pb m m' ∧ Like m m')) (fun i _ => n - (intOf i).toNat)
   case atStart => exact ⟨0, by omega, rfl, hide ⟨_, _, _, _, HTS8.out, HLK0.out⟩⟩
   case round =>
    obtain ⟨j, hj, rfl, HR⟩ := hrel
    by_cases hlt : j < n
    ·obtain ⟨Pa, Pb, m, m', htr, hlk⟩ := HR.out
     have HTR := hide htr
     have HLK := hide hlk
     obtain ⟨d, hd⟩ : ∃ y, D[j]? = some y := ⟨_, List.getElem?_eq_getElem (by have := HN.out.1; omega)⟩
     have hdm := List.mem_of_getElem? hd
     have HNM : Hid (∀ x ∈ d.sp, x.n.size ≤ 1100000) := hide (fun x hx => by have := ((HQ.out trivial).2 d hdm).2 x hx; omega)
     have HLE : Hid (d.eL.length ≤ 1100000) := hide (by
      have h1 := HBK.out.1 d hdm
      unfold Dm.eL
      split
      ·omega
      ·split
       ·omega
       ·unfold pB
        split
        ·rename_i hok
         have := Cm.bytes_len hok
         omega
        ·simp)
     obtain ⟨g, o, hgo, HDI⟩ : ∃ g o, p = some ⟨g, o, none⟩ ∧ Hid (∀ U, Below w.heap.size w U → DmIn U d ∧ ∀ (i : Nat) x, (dmC d)[i]? = some x → U.cell? ⟨g, o + j * 11 + i, none⟩ = some x) := by
      obtain ⟨p', c', hpe, _, _, hms⟩ := HD.out
      injection hpe with hpe1 hpe2 hpe3
      obtain ⟨g, o, e1, _, _⟩ := hms j d hd
      refine ⟨g, o, by rw [hpe1]; exact e1, hide fun U hU => ?_⟩
      obtain ⟨p'', c'', hpe', _, _, hms'⟩ := HD.out.below hU
      injection hpe' with hpe1' hpe2' hpe3'
      obtain ⟨g', o', e1', h2, h3⟩ := hms' j d hd
      rw [← hpe1'] at e1'
      rw [← hpe1, e1'] at e1
      injection e1 with e1
      injection e1 with e5 e6
      subst e5 e6
      exact ⟨h2, h3⟩
     subst hgo
     have HIX := hide (And.intro htr.a.is.ok.i0 htr.a.is.ok.i1)
     have HTM := hide (And.intro htr.a.is.ok.t0 htr.a.is.ok.t1)
     have HTS := hide (And.intro htr.a.soOk htr.b.soOk)
     obtain ⟨hin, hc⟩ := HDI.out wr htr.bel
     clear hd hdm HR hlk
     obtain ⟨op, k, se, sq, a, p1, n1, d1, q2, m2, d2, tm, ei, et, p3, n3, d3, sp, vo, by_⟩ := d
     dsimp only at HNM
     have c0 := hc 0 _ rfl
     rw [Nat.add_zero] at c0
     have c1 := hc 1 _ rfl
     have c2 := hc 2 _ rfl
     have c3 := hc 3 _ rfl
     have c4 := hc 4 _ rfl
     have c5 := hc 5 _ rfl
     have c6 := hc 6 _ rfl
     have c7 := hc 7 _ rfl
     have c8 := hc 8 _ rfl
     have c9 := hc 9 _ rfl
     have c10 := hc 10 _ rfl
     clear hc
     go_upto_region 13 with fail
     have hbA := (Below.refl wr.heap.size wr).alloc (Nat.le_refl _) (.cells #[.int .i64 op, .int .i64 k, .int .i64 se, .int .i64 sq, .int .i64 a, .slice p1 n1 d1, .slice q2 m2 d2, .int .i64 tm, .int .i64 ei, .int .i64 et, .slice p3 n3 d3] 57)
     have hrA := heap_alloc_new wr (.cells #[.int .i64 op, .int .i64 k, .int .i64 se, .int .i64 sq, .int .i64 a, .slice p1 n1 d1, .slice q2 m2 d2, .int .i64 tm, .int .i64 ei, .int .i64 et, .slice p3 n3 d3] 57)
     obtain ⟨W1, hW⟩ : ∃ W, wr.alloc (.cells #[.int .i64 op, .int .i64 k, .int .i64 se, .int .i64 sq, .int .i64 a, .slice p1 n1 d1, .slice q2 m2 d2, .int .i64 tm, .int .i64 ei, .int .i64 et, .slice p3 n3 d3] 57) = W := ⟨_, rfl⟩
     rw [hW] at hbA hrA ⊢
     obtain ⟨b, hbb⟩ : ∃ b, wr.heap.size = b := ⟨_, rfl⟩
     have HT1 := hide (htr.below hbA)
     rw [hbb] at hrA ⊢
     have HRB1 := hide hrA
     have HKR : Hid (∀ U : World, U.heap[b]? = some (.cells #[.int .i64 op, .int .i64 k, .int .i64 se, .int .i64 sq, .int .i64 a, .slice p1 n1 d1, .slice q2 m2 d2, .int .i64 tm, .int .i64 ei, .int .i64 et, .slice p3 n3 d3] 57 (0, 0)) → U.cell? ⟨b, 0, none⟩ = some (.int .i64 op) ∧ U.cell? ⟨b, 1, none⟩ = some (.int .i64 k) ∧ U.cell? ⟨b, 2, none⟩ = some (.int .i64 se) ∧ U.cell? ⟨b, 3, none⟩ = some (.int .i64 sq) ∧ U.cell? ⟨b, 4, none⟩ = some (.int .i64 a) ∧ U.cell? ⟨b, 5, none⟩ = some (.slice p1 n1 d1) ∧ U.cell? ⟨b, 6, none⟩ = some (.slice q2 m2 d2) ∧ U.cell? ⟨b, 7, none⟩ = some (.int .i64 tm) ∧ U.cell? ⟨b, 8, none⟩ = some (.int .i64 ei) ∧ U.cell? ⟨b, 9, none⟩ = some (.int .i64 et) ∧ U.cell? ⟨b, 10, none⟩ = some (.slice p3 n3 d3)) := hide fun U h1 => ⟨cell_of_row U b 0 _ 57 (0, 0) h1, cell_of_row U b 1 _ 57 (0, 0) h1, cell_of_row U b 2 _ 57 (0, 0) h1, cell_of_row U b 3 _ 57 (0, 0) h1, cell_of_row U b 4 _ 57 (0, 0) h1, cell_of_row U b 5 _ 57 (0, 0) h1, cell_of_row U b 6 _ 57 (0, 0) h1, cell_of_row U b 7 _ 57 (0, 0) h1, cell_of_row U b 8 _ 57 (0, 0) h1, cell_of_row U b 9 _ 57 (0, 0) h1, cell_of_row U b 10 _ 57 (0, 0) h1⟩
     clear hbA hrA hW hbb hin htr c0 c1 c2 c3 c4 c5 c6 c7 c8 c9 c10
     have HKP : Hid (∀ U, Below W1.heap.size W1 U → U.cell? ⟨b, 0, none⟩ = some (.int .i64 op) ∧ U.cell? ⟨b, 1, none⟩ = some (.int .i64 k) ∧ U.cell? ⟨b, 2, none⟩ = some (.int .i64 se) ∧ U.cell? ⟨b, 3, none⟩ = some (.int .i64 sq) ∧ U.cell? ⟨b, 4, none⟩ = some (.int .i64 a) ∧ U.cell? ⟨b, 5, none⟩ = some (.slice p1 n1 d1) ∧ U.cell? ⟨b, 6, none⟩ = some (.slice q2 m2 d2) ∧ U.cell? ⟨b, 7, none⟩ = some (.int .i64 tm) ∧ U.cell? ⟨b, 8, none⟩ = some (.int .i64 ei) ∧ U.cell? ⟨b, 9, none⟩ = some (.int .i64 et) ∧ U.cell? ⟨b, 10, none⟩ = some (.slice p3 n3 d3)) := hide fun U hU => HKR.out U ((hU.block b (Array.getElem?_eq_some_iff.1 HRB1.out).1).trans HRB1.out)
     have HB0 : Hid (Below W1.heap.size W1 (W1.drewN 1)) := hide (bdrew W1 1)
     have HA0 : Hid (Below W1.heap.size W1 ((W1.alloc (.cells #[.int .i64 0, .int .i64 0, .slice none 0 0] 55)).drewN 1)) := hide (((Below.refl _ W1).alloc (Nat.le_refl _) (.cells #[.int .i64 0, .int .i64 0, .slice none 0 0] 55)).trans (bdrew _ 1))
     refine wp_region_held_drew (S := (fun U => U.cell? ⟨b, 0, none⟩ = some (.int .i64 op) ∧ U.cell? ⟨b, 1, none⟩ = some (.int .i64 k) ∧ U.cell? ⟨b, 2, none⟩ = some (.int .i64 se) ∧ U.cell? ⟨b, 3, none⟩ = some (.int .i64 sq) ∧ U.cell? ⟨b, 4, none⟩ = some (.int .i64 a) ∧ U.cell? ⟨b, 5, none⟩ = some (.slice p1 n1 d1) ∧ U.cell? ⟨b, 6, none⟩ = some (.slice q2 m2 d2) ∧ U.cell? ⟨b, 7, none⟩ = some (.int .i64 tm) ∧ U.cell? ⟨b, 8, none⟩ = some (.int .i64 ei) ∧ U.cell? ⟨b, 9, none⟩ = some (.int .i64 et) ∧ U.cell? ⟨b, 10, none⟩ = some (.slice p3 n3 d3))) (by kernel_rfl) ?_ (fun hHeld => ?_)
     ·(try dsimp only)
      exact HKP.out _ (bdrew W1 1)
     focus
      refine tkI (i := 0) (oi := ⟨some 56, Op.load 57 (Operand.tmp 10), 57, _, _, none⟩) (v := ?_) rfl (by rfl) ?_ ?_
      rotate_left
      ·intro w hSw
       (try dsimp only at hSw)
       go_simp
       try with_reducible rfl
      try simp only [Act.put, qA, qB, qC]
      refine tkI (i := 1) (oi := ⟨some 57, Op.move (Operand.tmp 5), 47, _, _, none⟩) (v := ?_) rfl (by rfl) ?_ ?_
      rotate_left
      ·intro w hSw
       (try dsimp only at hSw)
       go_simp
       try with_reducible rfl
      try simp only [Act.put, qA, qB, qC]
      refine tkI (i := 3) (oi := ⟨some 59, Op.move (Operand.tmp 5), 47, _, _, none⟩) (v := ?_) rfl (by rfl) ?_ ?_
      rotate_left
      ·intro w hSw
       (try dsimp only at hSw)
       go_simp
       try with_reducible rfl
      try simp only [Act.put, qA, qB, qC]
      refine wpAnyH_ready (rs := [2, 6]) (by kernel_rfl) (by simp) ?_
      refine AllReadyH.cons (o := ⟨some 58, Op.call { callee := Callee.value (Operand.func 40), args := #[Operand.tmp 57], argTypes := #[47] }, 3, _, _, none⟩) rfl (fun K hK => ?_) (AllReadyH.cons (o := ⟨some 11, Op.alloc 55, 0, _, _, none⟩) rfl (fun K hK => ?_) AllReadyH.nil)
      focus
       go_simp
       go_at_call 40
       refine (mindex_any (HT1.out.below HB0.out).a).mono ?_
       rintro e3 W3 ⟨rfl, rfl⟩
       first
        | refine hK.out _ _ ?_ (fun hHeld => ?_)
        | (go_wp2_with fail; refine hK.out _ _ ?_ (fun hHeld => ?_))
       ·(try dsimp only)
        exact HKP.out _ HB0.out
       clear hK K
       try simp only [Act.put, qA, qB, qC]
       focus
        refine wpAnyH_ready (rs := [4, 6]) (by kernel_rfl) (by simp) ?_
        refine AllReadyH.cons (o := ⟨some 60, Op.call { callee := Callee.value (Operand.func 41), args := #[Operand.tmp 59], argTypes := #[47] }, 3, _, _, none⟩) rfl (fun K hK => ?_) (AllReadyH.cons (o := ⟨some 11, Op.alloc 55, 0, _, _, none⟩) rfl (fun K hK => ?_) AllReadyH.nil)
        focus
         go_simp
         go_at_call 41
         refine (mterm_any (HT1.out.below HB0.out).a).mono ?_
         rintro e5 W5 ⟨rfl, rfl⟩
         first
          | refine hK.out _ _ ?_ (fun hHeld => ?_)
          | (go_wp2_with fail; refine hK.out _ _ ?_ (fun hHeld => ?_))
         ·(try dsimp only)
          exact HKP.out _ HB0.out
         clear hK K
         try simp only [Act.put, qA, qB, qC]
         focus
          refine wpAnyH_ready (rs := [5, 6]) (by kernel_rfl) (by simp) ?_
          refine AllReadyH.cons (o := ⟨some 61, Op.call { callee := Callee.value (Operand.func 31), args := #[Operand.tmp 56, Operand.tmp 58, Operand.tmp 60], argTypes := #[57, 3, 3] }, 55, _, _, none⟩) rfl (fun K hK => ?_) (AllReadyH.cons (o := ⟨some 11, Op.alloc 55, 0, _, _, none⟩) rfl (fun K hK => ?_) AllReadyH.nil)
          focus
           go_simp
           go_at_call 31
           refine (mentry2_any (d := ⟨op, k, se, sq, a, p1, n1, d1, q2, m2, d2, tm, ei, et, p3, n3, d3, sp, vo, by_⟩) (HDI.out _ (bthen HT1.out.bel HB0.out)).1 HNM.out HIX.out HTM.out).mono ?_
           rintro e6 W6 ⟨pe, ne, ce, rfl, hby6, h6, hdj6⟩
           first
            | refine hK.out _ _ ?_ (fun hHeld => ?_)
            | (go_wp2_with fail; refine hK.out _ _ ?_ (fun hHeld => ?_))
           ·(try dsimp only)
            exact HKP.out _ (bthen HB0.out h6)
           clear hK K
           try simp only [Act.put, qA, qB, qC]
           refine wpAnyH_ready (rs := [6]) (by kernel_rfl) (by simp) ?_
           refine AllReadyH.cons (o := ⟨some 11, Op.alloc 55, 0, _, _, none⟩) rfl (fun K hK => ?_) AllReadyH.nil
           go_simp
           first
            | refine hK.out _ _ ?_ (fun hHeld => ?_)
            | (go_wp2_with fail; refine hK.out _ _ ?_ (fun hHeld => ?_))
           ·(try dsimp only)
            exact HKP.out _ ((bthen HB0.out h6).alloc (bthen HB0.out h6).size _)
           clear hK K
           try simp only [Act.put, qA, qB, qC]
           refine wpAnyH_ready (rs := [7]) (by kernel_rfl) (by simp) ?_
           refine AllReadyH.cons (o := ⟨none, Op.store 55 (Operand.tmp 11) (Operand.tmp 61), 0, _, _, none⟩) rfl (fun K hK => ?_) AllReadyH.nil
           go_simp
           first
            | refine hK.out _ _ ?_ (fun hHeld => ?_)
            | (go_wp2_with fail; refine hK.out _ _ ?_ (fun hHeld => ?_))
           ·(try dsimp only)
            exact HKP.out _ ((bthen HB0.out h6).alloc (bthen HB0.out h6).size _)
           clear hK K
           try simp only [Act.put, qA, qB, qC]
           refine wpAnyH_done (by kernel_rfl) ?_ _
           have hst : RowE (W6.alloc (.cells #[.int .i64 (Dm.eI ⟨op, k, se, sq, a, p1, n1, d1, q2, m2, d2, tm, ei, et, p3, n3, d3, sp, vo, by_⟩ m.ix), .int .i64 (Dm.eT ⟨op, k, se, sq, a, p1, n1, d1, q2, m2, d2, tm, ei, et, p3, n3, d3, sp, vo, by_⟩ m.tm), .slice pe ne ce] 55)) W6.heap.size (Dm.eI ⟨op, k, se, sq, a, p1, n1, d1, q2, m2, d2, tm, ei, et, p3, n3, d3, sp, vo, by_⟩ m.ix) (Dm.eT ⟨op, k, se, sq, a, p1, n1, d1, q2, m2, d2, tm, ei, et, p3, n3, d3, sp, vo, by_⟩ m.tm) (.slice pe ne ce) := heap_alloc_new _ _
           have hb6Z : Below W6.heap.size W6 (W6.alloc (.cells #[.int .i64 (Dm.eI ⟨op, k, se, sq, a, p1, n1, d1, q2, m2, d2, tm, ei, et, p3, n3, d3, sp, vo, by_⟩ m.ix), .int .i64 (Dm.eT ⟨op, k, se, sq, a, p1, n1, d1, q2, m2, d2, tm, ei, et, p3, n3, d3, sp, vo, by_⟩ m.tm), .slice pe ne ce] 55)) := (Below.refl _ _).alloc (Nat.le_refl _) _
           have hbZ : Below W1.heap.size W1 (W6.alloc (.cells #[.int .i64 (Dm.eI ⟨op, k, se, sq, a, p1, n1, d1, q2, m2, d2, tm, ei, et, p3, n3, d3, sp, vo, by_⟩ m.ix), .int .i64 (Dm.eT ⟨op, k, se, sq, a, p1, n1, d1, q2, m2, d2, tm, ei, et, p3, n3, d3, sp, vo, by_⟩ m.tm), .slice pe ne ce] 55)) := bthen (bthen HB0.out h6) hb6Z
           generalize W6.alloc (.cells #[.int .i64 (Dm.eI ⟨op, k, se, sq, a, p1, n1, d1, q2, m2, d2, tm, ei, et, p3, n3, d3, sp, vo, by_⟩ m.ix), .int .i64 (Dm.eT ⟨op, k, se, sq, a, p1, n1, d1, q2, m2, d2, tm, ei, et, p3, n3, d3, sp, vo, by_⟩ m.tm), .slice pe ne ce] 55) = Z at hst hb6Z hbZ ⊢
           obtain ⟨x, hx⟩ : ∃ b, W6.heap.size = b := ⟨_, rfl⟩
           have HXL : Hid (W1.heap.size ≤ x) := hide (by have := (show Below W1.heap.size W1 _ from (bthen HB0.out h6)).size; omega)
           have HBYU : Hid (∀ U A, Chg Z U A → (∀ k, A k → k < W1.heap.size) → Below w.heap.size w U → By U (.slice pe ne ce) (Dm.eL ⟨op, k, se, sq, a, p1, n1, d1, q2, m2, d2, tm, ei, et, p3, n3, d3, sp, vo, by_⟩)) := hide fun U A hU hA hwU => by
            rcases hdj6 with ⟨⟨e1, e2, e3⟩, e4⟩ | hf
            ·rw [e4, e1, e2, e3]; exact (HDI.out U hwU).1.by_
            ·exact hf A U ((Chg.of_below hb6Z A).trans hU (fun k e => .inl e)) (fun k e => Nat.lt_of_lt_of_le (hA k e) (show Below W1.heap.size W1 _ from HB0.out).size)
           rw [hx] at hst ⊢
          rotate_left 1
          focus
           go_simp
           first
            | refine hK.out _ _ ?_ (fun hHeld => ?_)
            | (go_wp2_with fail; refine hK.out _ _ ?_ (fun hHeld => ?_))
           ·(try dsimp only)
            exact HKP.out _ HA0.out
           clear hK K
           try simp only [Act.put, qA, qB, qC]
           refine wpAnyH_ready (rs := [5]) (by kernel_rfl) (by simp) ?_
           refine AllReadyH.cons (o := ⟨some 61, Op.call { callee := Callee.value (Operand.func 31), args := #[Operand.tmp 56, Operand.tmp 58, Operand.tmp 60], argTypes := #[57, 3, 3] }, 55, _, _, none⟩) rfl (fun K hK => ?_) AllReadyH.nil
           go_simp
           go_at_call 31
           refine (mentry2_any (d := ⟨op, k, se, sq, a, p1, n1, d1, q2, m2, d2, tm, ei, et, p3, n3, d3, sp, vo, by_⟩) (HDI.out _ (bthen HT1.out.bel HA0.out)).1 HNM.out HIX.out HTM.out).mono ?_
           rintro e6 W6 ⟨pe, ne, ce, rfl, hby6, h6, hdj6⟩
           have hr6 := (show RowE ((W1.alloc (.cells #[.int .i64 0, .int .i64 0, .slice none 0 0] 55)).drewN 1) W1.heap.size 0 0 (.slice none 0 0) from heap_alloc_new W1 (.cells #[.int .i64 0, .int .i64 0, .slice none 0 0] 55)).below h6
           obtain ⟨j0, j1, j2⟩ := hr6.z
           obtain ⟨f0, f1, f2⟩ := hr6.f
           first
            | refine hK.out _ _ ?_ (fun hHeld => ?_)
            | (go_wp2_with fail; refine hK.out _ _ ?_ (fun hHeld => ?_))
           ·(try dsimp only)
            exact HKP.out _ (bthen HA0.out h6)
           clear hK K
           try simp only [Act.put, qA, qB, qC]
           refine wpAnyH_ready (rs := [7]) (by kernel_rfl) (by simp) ?_
           refine AllReadyH.cons (o := ⟨none, Op.store 55 (Operand.tmp 11) (Operand.tmp 61), 0, _, _, none⟩) rfl (fun K hK => ?_) AllReadyH.nil
           go_simp
           first
            | refine hK.out _ _ ?_ (fun hHeld => ?_)
            | (go_wp2_with fail; refine hK.out _ _ ?_ (fun hHeld => ?_))
           ·(try dsimp only)
            have hcs := chgS (chgS (chg_set W6 W1.heap.size 0 (.int .i64 (Dm.eI ⟨op, k, se, sq, a, p1, n1, d1, q2, m2, d2, tm, ei, et, p3, n3, d3, sp, vo, by_⟩ m.ix))) (chg_set (W6.setCell ⟨W1.heap.size, 0, none⟩ (.int .i64 (Dm.eI ⟨op, k, se, sq, a, p1, n1, d1, q2, m2, d2, tm, ei, et, p3, n3, d3, sp, vo, by_⟩ m.ix))) W1.heap.size 1 (.int .i64 (Dm.eT ⟨op, k, se, sq, a, p1, n1, d1, q2, m2, d2, tm, ei, et, p3, n3, d3, sp, vo, by_⟩ m.tm)))) (chg_set ((W6.setCell ⟨W1.heap.size, 0, none⟩ (.int .i64 (Dm.eI ⟨op, k, se, sq, a, p1, n1, d1, q2, m2, d2, tm, ei, et, p3, n3, d3, sp, vo, by_⟩ m.ix))).setCell ⟨W1.heap.size, 1, none⟩ (.int .i64 (Dm.eT ⟨op, k, se, sq, a, p1, n1, d1, q2, m2, d2, tm, ei, et, p3, n3, d3, sp, vo, by_⟩ m.tm))) W1.heap.size 2 (.slice pe ne ce))
            exact HKP.out _ (Chg.to_below (bthen HA0.out h6) hcs (fun k e => by rw [e]; exact Nat.le_refl _))
           clear hK K
           try simp only [Act.put, qA, qB, qC]
           refine wpAnyH_done (by kernel_rfl) ?_ _
           have hst := hr6.set (Dm.eI ⟨op, k, se, sq, a, p1, n1, d1, q2, m2, d2, tm, ei, et, p3, n3, d3, sp, vo, by_⟩ m.ix) (Dm.eT ⟨op, k, se, sq, a, p1, n1, d1, q2, m2, d2, tm, ei, et, p3, n3, d3, sp, vo, by_⟩ m.tm) (.slice pe ne ce)
           have hcs := chgS (chgS (chg_set W6 W1.heap.size 0 (.int .i64 (Dm.eI ⟨op, k, se, sq, a, p1, n1, d1, q2, m2, d2, tm, ei, et, p3, n3, d3, sp, vo, by_⟩ m.ix))) (chg_set (W6.setCell ⟨W1.heap.size, 0, none⟩ (.int .i64 (Dm.eI ⟨op, k, se, sq, a, p1, n1, d1, q2, m2, d2, tm, ei, et, p3, n3, d3, sp, vo, by_⟩ m.ix))) W1.heap.size 1 (.int .i64 (Dm.eT ⟨op, k, se, sq, a, p1, n1, d1, q2, m2, d2, tm, ei, et, p3, n3, d3, sp, vo, by_⟩ m.tm)))) (chg_set ((W6.setCell ⟨W1.heap.size, 0, none⟩ (.int .i64 (Dm.eI ⟨op, k, se, sq, a, p1, n1, d1, q2, m2, d2, tm, ei, et, p3, n3, d3, sp, vo, by_⟩ m.ix))).setCell ⟨W1.heap.size, 1, none⟩ (.int .i64 (Dm.eT ⟨op, k, se, sq, a, p1, n1, d1, q2, m2, d2, tm, ei, et, p3, n3, d3, sp, vo, by_⟩ m.tm))) W1.heap.size 2 (.slice pe ne ce))
           have hbZ : Below W1.heap.size W1 (((W6.setCell ⟨W1.heap.size, 0, none⟩ (.int .i64 (Dm.eI ⟨op, k, se, sq, a, p1, n1, d1, q2, m2, d2, tm, ei, et, p3, n3, d3, sp, vo, by_⟩ m.ix))).setCell ⟨W1.heap.size, 1, none⟩ (.int .i64 (Dm.eT ⟨op, k, se, sq, a, p1, n1, d1, q2, m2, d2, tm, ei, et, p3, n3, d3, sp, vo, by_⟩ m.tm))).setCell ⟨W1.heap.size, 2, none⟩ (.slice pe ne ce)) := Chg.to_below (bthen HA0.out h6) hcs (fun k e => by rw [e]; exact Nat.le_refl _)
           have hsz : ((W1.alloc (.cells #[.int .i64 0, .int .i64 0, .slice none 0 0] 55)).drewN 1).heap.size = W1.heap.size + 1 := by
            show (W1.alloc (.cells #[.int .i64 0, .int .i64 0, .slice none 0 0] 55)).heap.size = _
            simp
           generalize (((W6.setCell ⟨W1.heap.size, 0, none⟩ (.int .i64 (Dm.eI ⟨op, k, se, sq, a, p1, n1, d1, q2, m2, d2, tm, ei, et, p3, n3, d3, sp, vo, by_⟩ m.ix))).setCell ⟨W1.heap.size, 1, none⟩ (.int .i64 (Dm.eT ⟨op, k, se, sq, a, p1, n1, d1, q2, m2, d2, tm, ei, et, p3, n3, d3, sp, vo, by_⟩ m.tm))).setCell ⟨W1.heap.size, 2, none⟩ (.slice pe ne ce)) = Z at hst hcs hbZ ⊢
           have HBYU : Hid (∀ U A, Chg Z U A → (∀ k, A k → k < W1.heap.size) → Below w.heap.size w U → By U (.slice pe ne ce) (Dm.eL ⟨op, k, se, sq, a, p1, n1, d1, q2, m2, d2, tm, ei, et, p3, n3, d3, sp, vo, by_⟩)) := hide fun U A hU hA hwU => by
            rcases hdj6 with ⟨⟨e1, e2, e3⟩, e4⟩ | hf
            ·rw [e4, e1, e2, e3]; exact (HDI.out U hwU).1.by_
            ·refine hf (fun k => k = W1.heap.size ∨ A k) U ((hcs.mono (fun k e => .inl e)).trans hU (fun k e => .inl (.inr e))) (fun k e => ?_)
             rcases e with e | e
             ·omega
             ·have := hA k e; omega
           obtain ⟨x, hx⟩ : ∃ b, W1.heap.size = b := ⟨_, rfl⟩
           have HXL : Hid (W1.heap.size ≤ x) := hide (Nat.le_of_eq hx)
           have hb6Z : True := trivial
           clear hr6 j0 j1 j2 f0 f1 f2 hcs hsz
           rw [hx] at hst ⊢
        rotate_left 2
        focus
         go_simp
         first
          | refine hK.out _ _ ?_ (fun hHeld => ?_)
          | (go_wp2_with fail; refine hK.out _ _ ?_ (fun hHeld => ?_))
         ·(try dsimp only)
          exact HKP.out _ HA0.out
         clear hK K
         try simp only [Act.put, qA, qB, qC]
         refine wpAnyH_ready (rs := [4]) (by kernel_rfl) (by simp) ?_
         refine AllReadyH.cons (o := ⟨some 60, Op.call { callee := Callee.value (Operand.func 41), args := #[Operand.tmp 59], argTypes := #[47] }, 3, _, _, none⟩) rfl (fun K hK => ?_) AllReadyH.nil
         go_simp
         go_at_call 41
         refine (mterm_any (HT1.out.below HA0.out).a).mono ?_
         rintro e5 W5 ⟨rfl, rfl⟩
         first
          | refine hK.out _ _ ?_ (fun hHeld => ?_)
          | (go_wp2_with fail; refine hK.out _ _ ?_ (fun hHeld => ?_))
         ·(try dsimp only)
          exact HKP.out _ HA0.out
         clear hK K
         try simp only [Act.put, qA, qB, qC]
         refine wpAnyH_ready (rs := [5]) (by kernel_rfl) (by simp) ?_
         refine AllReadyH.cons (o := ⟨some 61, Op.call { callee := Callee.value (Operand.func 31), args := #[Operand.tmp 56, Operand.tmp 58, Operand.tmp 60], argTypes := #[57, 3, 3] }, 55, _, _, none⟩) rfl (fun K hK => ?_) AllReadyH.nil
         go_simp
         go_at_call 31
         refine (mentry2_any (d := ⟨op, k, se, sq, a, p1, n1, d1, q2, m2, d2, tm, ei, et, p3, n3, d3, sp, vo, by_⟩) (HDI.out _ (bthen HT1.out.bel HA0.out)).1 HNM.out HIX.out HTM.out).mono ?_
         rintro e6 W6 ⟨pe, ne, ce, rfl, hby6, h6, hdj6⟩
         have hr6 := (show RowE ((W1.alloc (.cells #[.int .i64 0, .int .i64 0, .slice none 0 0] 55)).drewN 1) W1.heap.size 0 0 (.slice none 0 0) from heap_alloc_new W1 (.cells #[.int .i64 0, .int .i64 0, .slice none 0 0] 55)).below h6
         obtain ⟨j0, j1, j2⟩ := hr6.z
         obtain ⟨f0, f1, f2⟩ := hr6.f
         first
          | refine hK.out _ _ ?_ (fun hHeld => ?_)
          | (go_wp2_with fail; refine hK.out _ _ ?_ (fun hHeld => ?_))
         ·(try dsimp only)
          exact HKP.out _ (bthen HA0.out h6)
         clear hK K
         try simp only [Act.put, qA, qB, qC]
         refine wpAnyH_ready (rs := [7]) (by kernel_rfl) (by simp) ?_
         refine AllReadyH.cons (o := ⟨none, Op.store 55 (Operand.tmp 11) (Operand.tmp 61), 0, _, _, none⟩) rfl (fun K hK => ?_) AllReadyH.nil
         go_simp
         first
          | refine hK.out _ _ ?_ (fun hHeld => ?_)
          | (go_wp2_with fail; refine hK.out _ _ ?_ (fun hHeld => ?_))
         ·(try dsimp only)
          have hcs := chgS (chgS (chg_set W6 W1.heap.size 0 (.int .i64 (Dm.eI ⟨op, k, se, sq, a, p1, n1, d1, q2, m2, d2, tm, ei, et, p3, n3, d3, sp, vo, by_⟩ m.ix))) (chg_set (W6.setCell ⟨W1.heap.size, 0, none⟩ (.int .i64 (Dm.eI ⟨op, k, se, sq, a, p1, n1, d1, q2, m2, d2, tm, ei, et, p3, n3, d3, sp, vo, by_⟩ m.ix))) W1.heap.size 1 (.int .i64 (Dm.eT ⟨op, k, se, sq, a, p1, n1, d1, q2, m2, d2, tm, ei, et, p3, n3, d3, sp, vo, by_⟩ m.tm)))) (chg_set ((W6.setCell ⟨W1.heap.size, 0, none⟩ (.int .i64 (Dm.eI ⟨op, k, se, sq, a, p1, n1, d1, q2, m2, d2, tm, ei, et, p3, n3, d3, sp, vo, by_⟩ m.ix))).setCell ⟨W1.heap.size, 1, none⟩ (.int .i64 (Dm.eT ⟨op, k, se, sq, a, p1, n1, d1, q2, m2, d2, tm, ei, et, p3, n3, d3, sp, vo, by_⟩ m.tm))) W1.heap.size 2 (.slice pe ne ce))
          exact HKP.out _ (Chg.to_below (bthen HA0.out h6) hcs (fun k e => by rw [e]; exact Nat.le_refl _))
         clear hK K
         try simp only [Act.put, qA, qB, qC]
         refine wpAnyH_done (by kernel_rfl) ?_ _
         have hst := hr6.set (Dm.eI ⟨op, k, se, sq, a, p1, n1, d1, q2, m2, d2, tm, ei, et, p3, n3, d3, sp, vo, by_⟩ m.ix) (Dm.eT ⟨op, k, se, sq, a, p1, n1, d1, q2, m2, d2, tm, ei, et, p3, n3, d3, sp, vo, by_⟩ m.tm) (.slice pe ne ce)
         have hcs := chgS (chgS (chg_set W6 W1.heap.size 0 (.int .i64 (Dm.eI ⟨op, k, se, sq, a, p1, n1, d1, q2, m2, d2, tm, ei, et, p3, n3, d3, sp, vo, by_⟩ m.ix))) (chg_set (W6.setCell ⟨W1.heap.size, 0, none⟩ (.int .i64 (Dm.eI ⟨op, k, se, sq, a, p1, n1, d1, q2, m2, d2, tm, ei, et, p3, n3, d3, sp, vo, by_⟩ m.ix))) W1.heap.size 1 (.int .i64 (Dm.eT ⟨op, k, se, sq, a, p1, n1, d1, q2, m2, d2, tm, ei, et, p3, n3, d3, sp, vo, by_⟩ m.tm)))) (chg_set ((W6.setCell ⟨W1.heap.size, 0, none⟩ (.int .i64 (Dm.eI ⟨op, k, se, sq, a, p1, n1, d1, q2, m2, d2, tm, ei, et, p3, n3, d3, sp, vo, by_⟩ m.ix))).setCell ⟨W1.heap.size, 1, none⟩ (.int .i64 (Dm.eT ⟨op, k, se, sq, a, p1, n1, d1, q2, m2, d2, tm, ei, et, p3, n3, d3, sp, vo, by_⟩ m.tm))) W1.heap.size 2 (.slice pe ne ce))
         have hbZ : Below W1.heap.size W1 (((W6.setCell ⟨W1.heap.size, 0, none⟩ (.int .i64 (Dm.eI ⟨op, k, se, sq, a, p1, n1, d1, q2, m2, d2, tm, ei, et, p3, n3, d3, sp, vo, by_⟩ m.ix))).setCell ⟨W1.heap.size, 1, none⟩ (.int .i64 (Dm.eT ⟨op, k, se, sq, a, p1, n1, d1, q2, m2, d2, tm, ei, et, p3, n3, d3, sp, vo, by_⟩ m.tm))).setCell ⟨W1.heap.size, 2, none⟩ (.slice pe ne ce)) := Chg.to_below (bthen HA0.out h6) hcs (fun k e => by rw [e]; exact Nat.le_refl _)
         have hsz : ((W1.alloc (.cells #[.int .i64 0, .int .i64 0, .slice none 0 0] 55)).drewN 1).heap.size = W1.heap.size + 1 := by
          show (W1.alloc (.cells #[.int .i64 0, .int .i64 0, .slice none 0 0] 55)).heap.size = _
          simp
         generalize (((W6.setCell ⟨W1.heap.size, 0, none⟩ (.int .i64 (Dm.eI ⟨op, k, se, sq, a, p1, n1, d1, q2, m2, d2, tm, ei, et, p3, n3, d3, sp, vo, by_⟩ m.ix))).setCell ⟨W1.heap.size, 1, none⟩ (.int .i64 (Dm.eT ⟨op, k, se, sq, a, p1, n1, d1, q2, m2, d2, tm, ei, et, p3, n3, d3, sp, vo, by_⟩ m.tm))).setCell ⟨W1.heap.size, 2, none⟩ (.slice pe ne ce)) = Z at hst hcs hbZ ⊢
         have HBYU : Hid (∀ U A, Chg Z U A → (∀ k, A k → k < W1.heap.size) → Below w.heap.size w U → By U (.slice pe ne ce) (Dm.eL ⟨op, k, se, sq, a, p1, n1, d1, q2, m2, d2, tm, ei, et, p3, n3, d3, sp, vo, by_⟩)) := hide fun U A hU hA hwU => by
          rcases hdj6 with ⟨⟨e1, e2, e3⟩, e4⟩ | hf
          ·rw [e4, e1, e2, e3]; exact (HDI.out U hwU).1.by_
          ·refine hf (fun k => k = W1.heap.size ∨ A k) U ((hcs.mono (fun k e => .inl e)).trans hU (fun k e => .inl (.inr e))) (fun k e => ?_)
           rcases e with e | e
           ·omega
           ·have := hA k e; omega
         obtain ⟨x, hx⟩ : ∃ b, W1.heap.size = b := ⟨_, rfl⟩
         have HXL : Hid (W1.heap.size ≤ x) := hide (Nat.le_of_eq hx)
         have hb6Z : True := trivial
         clear hr6 j0 j1 j2 f0 f1 f2 hcs hsz
         rw [hx] at hst ⊢
      rotate_left 3
      focus
       go_simp
       first
        | refine hK.out _ _ ?_ (fun hHeld => ?_)
        | (go_wp2_with fail; refine hK.out _ _ ?_ (fun hHeld => ?_))
       ·(try dsimp only)
        exact HKP.out _ HA0.out
       clear hK K
       try simp only [Act.put, qA, qB, qC]
       refine wpAnyH_ready (rs := [2]) (by kernel_rfl) (by simp) ?_
       refine AllReadyH.cons (o := ⟨some 58, Op.call { callee := Callee.value (Operand.func 40), args := #[Operand.tmp 57], argTypes := #[47] }, 3, _, _, none⟩) rfl (fun K hK => ?_) AllReadyH.nil
       go_simp
       go_at_call 40
       refine (mindex_any (HT1.out.below HA0.out).a).mono ?_
       rintro e3 W3 ⟨rfl, rfl⟩
       first
        | refine hK.out _ _ ?_ (fun hHeld => ?_)
        | (go_wp2_with fail; refine hK.out _ _ ?_ (fun hHeld => ?_))
       ·(try dsimp only)
        exact HKP.out _ HA0.out
       clear hK K
       try simp only [Act.put, qA, qB, qC]
       refine wpAnyH_ready (rs := [4]) (by kernel_rfl) (by simp) ?_
       refine AllReadyH.cons (o := ⟨some 60, Op.call { callee := Callee.value (Operand.func 41), args := #[Operand.tmp 59], argTypes := #[47] }, 3, _, _, none⟩) rfl (fun K hK => ?_) AllReadyH.nil
       go_simp
       go_at_call 41
       refine (mterm_any (HT1.out.below HA0.out).a).mono ?_
       rintro e5 W5 ⟨rfl, rfl⟩
       first
        | refine hK.out _ _ ?_ (fun hHeld => ?_)
        | (go_wp2_with fail; refine hK.out _ _ ?_ (fun hHeld => ?_))
       ·(try dsimp only)
        exact HKP.out _ HA0.out
       clear hK K
       try simp only [Act.put, qA, qB, qC]
       refine wpAnyH_ready (rs := [5]) (by kernel_rfl) (by simp) ?_
       refine AllReadyH.cons (o := ⟨some 61, Op.call { callee := Callee.value (Operand.func 31), args := #[Operand.tmp 56, Operand.tmp 58, Operand.tmp 60], argTypes := #[57, 3, 3] }, 55, _, _, none⟩) rfl (fun K hK => ?_) AllReadyH.nil
       go_simp
       go_at_call 31
       refine (mentry2_any (d := ⟨op, k, se, sq, a, p1, n1, d1, q2, m2, d2, tm, ei, et, p3, n3, d3, sp, vo, by_⟩) (HDI.out _ (bthen HT1.out.bel HA0.out)).1 HNM.out HIX.out HTM.out).mono ?_
       rintro e6 W6 ⟨pe, ne, ce, rfl, hby6, h6, hdj6⟩
       have hr6 := (show RowE ((W1.alloc (.cells #[.int .i64 0, .int .i64 0, .slice none 0 0] 55)).drewN 1) W1.heap.size 0 0 (.slice none 0 0) from heap_alloc_new W1 (.cells #[.int .i64 0, .int .i64 0, .slice none 0 0] 55)).below h6
       obtain ⟨j0, j1, j2⟩ := hr6.z
       obtain ⟨f0, f1, f2⟩ := hr6.f
       first
        | refine hK.out _ _ ?_ (fun hHeld => ?_)
        | (go_wp2_with fail; refine hK.out _ _ ?_ (fun hHeld => ?_))
       ·(try dsimp only)
        exact HKP.out _ (bthen HA0.out h6)
       clear hK K
       try simp only [Act.put, qA, qB, qC]
       refine wpAnyH_ready (rs := [7]) (by kernel_rfl) (by simp) ?_
       refine AllReadyH.cons (o := ⟨none, Op.store 55 (Operand.tmp 11) (Operand.tmp 61), 0, _, _, none⟩) rfl (fun K hK => ?_) AllReadyH.nil
       go_simp
       first
        | refine hK.out _ _ ?_ (fun hHeld => ?_)
        | (go_wp2_with fail; refine hK.out _ _ ?_ (fun hHeld => ?_))
       ·(try dsimp only)
        have hcs := chgS (chgS (chg_set W6 W1.heap.size 0 (.int .i64 (Dm.eI ⟨op, k, se, sq, a, p1, n1, d1, q2, m2, d2, tm, ei, et, p3, n3, d3, sp, vo, by_⟩ m.ix))) (chg_set (W6.setCell ⟨W1.heap.size, 0, none⟩ (.int .i64 (Dm.eI ⟨op, k, se, sq, a, p1, n1, d1, q2, m2, d2, tm, ei, et, p3, n3, d3, sp, vo, by_⟩ m.ix))) W1.heap.size 1 (.int .i64 (Dm.eT ⟨op, k, se, sq, a, p1, n1, d1, q2, m2, d2, tm, ei, et, p3, n3, d3, sp, vo, by_⟩ m.tm)))) (chg_set ((W6.setCell ⟨W1.heap.size, 0, none⟩ (.int .i64 (Dm.eI ⟨op, k, se, sq, a, p1, n1, d1, q2, m2, d2, tm, ei, et, p3, n3, d3, sp, vo, by_⟩ m.ix))).setCell ⟨W1.heap.size, 1, none⟩ (.int .i64 (Dm.eT ⟨op, k, se, sq, a, p1, n1, d1, q2, m2, d2, tm, ei, et, p3, n3, d3, sp, vo, by_⟩ m.tm))) W1.heap.size 2 (.slice pe ne ce))
        exact HKP.out _ (Chg.to_below (bthen HA0.out h6) hcs (fun k e => by rw [e]; exact Nat.le_refl _))
       clear hK K
       try simp only [Act.put, qA, qB, qC]
       refine wpAnyH_done (by kernel_rfl) ?_ _
       have hst := hr6.set (Dm.eI ⟨op, k, se, sq, a, p1, n1, d1, q2, m2, d2, tm, ei, et, p3, n3, d3, sp, vo, by_⟩ m.ix) (Dm.eT ⟨op, k, se, sq, a, p1, n1, d1, q2, m2, d2, tm, ei, et, p3, n3, d3, sp, vo, by_⟩ m.tm) (.slice pe ne ce)
       have hcs := chgS (chgS (chg_set W6 W1.heap.size 0 (.int .i64 (Dm.eI ⟨op, k, se, sq, a, p1, n1, d1, q2, m2, d2, tm, ei, et, p3, n3, d3, sp, vo, by_⟩ m.ix))) (chg_set (W6.setCell ⟨W1.heap.size, 0, none⟩ (.int .i64 (Dm.eI ⟨op, k, se, sq, a, p1, n1, d1, q2, m2, d2, tm, ei, et, p3, n3, d3, sp, vo, by_⟩ m.ix))) W1.heap.size 1 (.int .i64 (Dm.eT ⟨op, k, se, sq, a, p1, n1, d1, q2, m2, d2, tm, ei, et, p3, n3, d3, sp, vo, by_⟩ m.tm)))) (chg_set ((W6.setCell ⟨W1.heap.size, 0, none⟩ (.int .i64 (Dm.eI ⟨op, k, se, sq, a, p1, n1, d1, q2, m2, d2, tm, ei, et, p3, n3, d3, sp, vo, by_⟩ m.ix))).setCell ⟨W1.heap.size, 1, none⟩ (.int .i64 (Dm.eT ⟨op, k, se, sq, a, p1, n1, d1, q2, m2, d2, tm, ei, et, p3, n3, d3, sp, vo, by_⟩ m.tm))) W1.heap.size 2 (.slice pe ne ce))
       have hbZ : Below W1.heap.size W1 (((W6.setCell ⟨W1.heap.size, 0, none⟩ (.int .i64 (Dm.eI ⟨op, k, se, sq, a, p1, n1, d1, q2, m2, d2, tm, ei, et, p3, n3, d3, sp, vo, by_⟩ m.ix))).setCell ⟨W1.heap.size, 1, none⟩ (.int .i64 (Dm.eT ⟨op, k, se, sq, a, p1, n1, d1, q2, m2, d2, tm, ei, et, p3, n3, d3, sp, vo, by_⟩ m.tm))).setCell ⟨W1.heap.size, 2, none⟩ (.slice pe ne ce)) := Chg.to_below (bthen HA0.out h6) hcs (fun k e => by rw [e]; exact Nat.le_refl _)
       have hsz : ((W1.alloc (.cells #[.int .i64 0, .int .i64 0, .slice none 0 0] 55)).drewN 1).heap.size = W1.heap.size + 1 := by
        show (W1.alloc (.cells #[.int .i64 0, .int .i64 0, .slice none 0 0] 55)).heap.size = _
        simp
       generalize (((W6.setCell ⟨W1.heap.size, 0, none⟩ (.int .i64 (Dm.eI ⟨op, k, se, sq, a, p1, n1, d1, q2, m2, d2, tm, ei, et, p3, n3, d3, sp, vo, by_⟩ m.ix))).setCell ⟨W1.heap.size, 1, none⟩ (.int .i64 (Dm.eT ⟨op, k, se, sq, a, p1, n1, d1, q2, m2, d2, tm, ei, et, p3, n3, d3, sp, vo, by_⟩ m.tm))).setCell ⟨W1.heap.size, 2, none⟩ (.slice pe ne ce)) = Z at hst hcs hbZ ⊢
       have HBYU : Hid (∀ U A, Chg Z U A → (∀ k, A k → k < W1.heap.size) → Below w.heap.size w U → By U (.slice pe ne ce) (Dm.eL ⟨op, k, se, sq, a, p1, n1, d1, q2, m2, d2, tm, ei, et, p3, n3, d3, sp, vo, by_⟩)) := hide fun U A hU hA hwU => by
        rcases hdj6 with ⟨⟨e1, e2, e3⟩, e4⟩ | hf
        ·rw [e4, e1, e2, e3]; exact (HDI.out U hwU).1.by_
        ·refine hf (fun k => k = W1.heap.size ∨ A k) U ((hcs.mono (fun k e => .inl e)).trans hU (fun k e => .inl (.inr e))) (fun k e => ?_)
         rcases e with e | e
         ·omega
         ·have := hA k e; omega
       obtain ⟨x, hx⟩ : ∃ b, W1.heap.size = b := ⟨_, rfl⟩
       have HXL : Hid (W1.heap.size ≤ x) := hide (Nat.le_of_eq hx)
       have hb6Z : True := trivial
       clear hr6 j0 j1 j2 f0 f1 f2 hcs hsz
       rw [hx] at hst ⊢
     all_goals
      have HT2 := hide (HT1.out.below hbZ)
      have HX2 := hide hst
      have HZL : Hid (W1.heap.size ≤ Z.heap.size) := hide hbZ.size
      have HBZ0 := HBYU.out Z (fun _ => False) (Chg.refl _ _) (fun k e => e.elim) HT2.out.bel
      obtain ⟨y0, y1, y2⟩ := HX2.out.z
      have HAP := hide (mapply_ts HT2.out.a (ix := Dm.eI ⟨op, k, se, sq, a, p1, n1, d1, q2, m2, d2, tm, ei, et, p3, n3, d3, sp, vo, by_⟩ m.ix) (tm := Dm.eT ⟨op, k, se, sq, a, p1, n1, d1, q2, m2, d2, tm, ei, et, p3, n3, d3, sp, vo, by_⟩ m.tm) HBZ0 HLE.out)
      obtain ⟨dr, hdr⟩ : ∃ r, (appM m (Dm.eI ⟨op, k, se, sq, a, p1, n1, d1, q2, m2, d2, tm, ei, et, p3, n3, d3, sp, vo, by_⟩ m.ix) (Dm.eT ⟨op, k, se, sq, a, p1, n1, d1, q2, m2, d2, tm, ei, et, p3, n3, d3, sp, vo, by_⟩ m.tm) (Dm.eL ⟨op, k, se, sq, a, p1, n1, d1, q2, m2, d2, tm, ei, et, p3, n3, d3, sp, vo, by_⟩)).1 = r := ⟨_, rfl⟩
      obtain ⟨de, hde⟩ : ∃ r, (appM m (Dm.eI ⟨op, k, se, sq, a, p1, n1, d1, q2, m2, d2, tm, ei, et, p3, n3, d3, sp, vo, by_⟩ m.ix) (Dm.eT ⟨op, k, se, sq, a, p1, n1, d1, q2, m2, d2, tm, ei, et, p3, n3, d3, sp, vo, by_⟩ m.tm) (Dm.eL ⟨op, k, se, sq, a, p1, n1, d1, q2, m2, d2, tm, ei, et, p3, n3, d3, sp, vo, by_⟩)).2.1 = r := ⟨_, rfl⟩
      obtain ⟨mm, hmm⟩ : ∃ r, (appM m (Dm.eI ⟨op, k, se, sq, a, p1, n1, d1, q2, m2, d2, tm, ei, et, p3, n3, d3, sp, vo, by_⟩ m.ix) (Dm.eT ⟨op, k, se, sq, a, p1, n1, d1, q2, m2, d2, tm, ei, et, p3, n3, d3, sp, vo, by_⟩ m.tm) (Dm.eL ⟨op, k, se, sq, a, p1, n1, d1, q2, m2, d2, tm, ei, et, p3, n3, d3, sp, vo, by_⟩)).2.2 = r := ⟨_, rfl⟩
      rw [hdr, hde, hmm] at HAP
      have HDR := hide (And.intro hdr (And.intro hde hmm))
      clear hst hbZ hb6Z hdj6 hby6 h6 hHeld HBZ0 hdr hde hmm hx
      go_wp2_with fail
      refine HAP.out.mono ?_
      rintro e W7 ⟨rfl, Pa7, hts⟩
      have HT7 := hide (HT2.out.step hts)
      have HX7 : Hid (RowE W7 x (Dm.eI ⟨op, k, se, sq, a, p1, n1, d1, q2, m2, d2, tm, ei, et, p3, n3, d3, sp, vo, by_⟩ m.ix) (Dm.eT ⟨op, k, se, sq, a, p1, n1, d1, q2, m2, d2, tm, ei, et, p3, n3, d3, sp, vo, by_⟩ m.tm) (.slice pe ne ce)) := hide ((hts.chg.block x HX2.out.lt (fun e => by have := HT1.out.a.is.lt x e; have := HXL.out; omega)).trans HX2.out)
      have HC7 := hide hts.chg
      clear hts y0 y1 y2 HAP
      unfold rpV
      go_upto_region 15 with fail
      obtain ⟨W8, hW8⟩ : ∃ X, W7.alloc (.cells #[.int .i64 dr.er, .int .i64 dr.rs, .int .i64 dr.gn, .int .i64 dr.ad, .int .i64 dr.sa, .int .i64 dr.ot, .int .i64 dr.cy, .int .i64 dr.fu] 66) = X := ⟨_, rfl⟩
      have hb8 : Below W7.heap.size W7 W8 := by rw [← hW8]; exact (Below.refl _ _).alloc (Nat.le_refl _) _
      have hr8 : RowR W8 W7.heap.size dr := by rw [← hW8]; exact RowR.new W7 dr
      rw [hW8]
      obtain ⟨r1, hr1⟩ : ∃ b, W7.heap.size = b := ⟨_, rfl⟩
      have HT8 := hide (HT7.out.below hb8)
      have HX8 := hide (HX7.out.below hb8)
      have HC8 := hide (HC7.out.belowed hb8)
      have HRL : Hid (W1.heap.size ≤ r1) := hide (by have := HC7.out.size; have := HZL.out; omega)
      rw [hr1] at hr8 ⊢
      have HR8 := hide hr8
      have HBZ8 := HBYU.out W8 (McS Pa) HC8.out (fun k e => HT1.out.a.is.lt k e) HT8.out.bel
      have HLK7 := HLK.out.app HTS.out.1 HTS.out.2 (Dm.eI ⟨op, k, se, sq, a, p1, n1, d1, q2, m2, d2, tm, ei, et, p3, n3, d3, sp, vo, by_⟩ m.ix) (Dm.eT ⟨op, k, se, sq, a, p1, n1, d1, q2, m2, d2, tm, ei, et, p3, n3, d3, sp, vo, by_⟩ m.tm) (Dm.eL ⟨op, k, se, sq, a, p1, n1, d1, q2, m2, d2, tm, ei, et, p3, n3, d3, sp, vo, by_⟩)
      have HAP2 := hide (mapply_ts HT8.out.b (ix := Dm.eI ⟨op, k, se, sq, a, p1, n1, d1, q2, m2, d2, tm, ei, et, p3, n3, d3, sp, vo, by_⟩ m.ix) (tm := Dm.eT ⟨op, k, se, sq, a, p1, n1, d1, q2, m2, d2, tm, ei, et, p3, n3, d3, sp, vo, by_⟩ m.tm) HBZ8 HLE.out)
      rw [HLK7.1, HLK7.2.1, HDR.out.1, HDR.out.2.1] at HAP2
      have hlk8 := HLK7.2.2
      rw [HDR.out.2.2] at hlk8
      obtain ⟨mn, hmn⟩ : ∃ r, (appM m' (Dm.eI ⟨op, k, se, sq, a, p1, n1, d1, q2, m2, d2, tm, ei, et, p3, n3, d3, sp, vo, by_⟩ m.ix) (Dm.eT ⟨op, k, se, sq, a, p1, n1, d1, q2, m2, d2, tm, ei, et, p3, n3, d3, sp, vo, by_⟩ m.tm) (Dm.eL ⟨op, k, se, sq, a, p1, n1, d1, q2, m2, d2, tm, ei, et, p3, n3, d3, sp, vo, by_⟩)).2.2 = r := ⟨_, rfl⟩
      rw [hmn] at HAP2 hlk8
      have HLK8 := hide hlk8
      clear HLK7 hlk8 hmn
      obtain ⟨y0, y1, y2⟩ := HX8.out.z
      clear hW8 hb8 hr8 hr1 HBZ8
      go_wp2_with fail
      refine HAP2.out.mono ?_
      rintro e W9 ⟨rfl, Pb9, hts⟩
      have HT9 := hide (HT8.out.rot.step hts).rot
      have HR9 : Hid (RowR W9 r1 dr) := hide ((hts.chg.block r1 (Array.getElem?_eq_some_iff.1 HR8.out).1 (fun e => by have := HT1.out.b.is.lt r1 e; have := HRL.out; omega)).trans HR8.out)
      clear hts y0 y1 y2 HAP2
      unfold rpV
      go_upto_region 16 with fail
      obtain ⟨W10, hW10⟩ : ∃ X, W9.alloc (.cells #[.int .i64 dr.er, .int .i64 dr.rs, .int .i64 dr.gn, .int .i64 dr.ad, .int .i64 dr.sa, .int .i64 dr.ot, .int .i64 dr.cy, .int .i64 dr.fu] 66) = X := ⟨_, rfl⟩
      have hb10 : Below W9.heap.size W9 W10 := by rw [← hW10]; exact (Below.refl _ _).alloc (Nat.le_refl _) _
      have hr10 : RowR W10 W9.heap.size dr := by rw [← hW10]; exact RowR.new W9 dr
      rw [hW10]
      obtain ⟨r2, hr2⟩ : ∃ b, W9.heap.size = b := ⟨_, rfl⟩
      have HT10 := hide (HT9.out.below hb10)
      obtain ⟨z0, z1, z2, z3, z4, z5, z6, z7⟩ := (HR9.out.below hb10).z
      rw [hr2] at hr10 ⊢
      obtain ⟨t0, t1, t2, t3, t4, t5, t6, t7⟩ := hr10.z
      have hnq : ∀ U, (binOp .neq 66 (.agg #[.int .i64 dr.er, .int .i64 dr.rs, .int .i64 dr.gn, .int .i64 dr.ad, .int .i64 dr.sa, .int .i64 dr.ot, .int .i64 dr.cy, .int .i64 dr.fu]) (.agg #[.int .i64 dr.er, .int .i64 dr.rs, .int .i64 dr.gn, .int .i64 dr.ad, .int .i64 dr.sa, .int .i64 dr.ot, .int .i64 dr.cy, .int .i64 dr.fu])).run Tryz.prog U = .ok (.bool false) U := fun U => by
       have h1 := rp_neqB dr dr U
       rw [decide_eq_true rfl] at h1
       exact h1
      clear hW10 hb10 hr10 hr2
      go_wp2_with fail
      go_roundw
      case rel => exact ⟨j + 1, by omega, by go_num, hide ⟨_, _, _, _, HT10.out, HLK8.out⟩⟩
      case measure => simp [intOf]; omega
    ·obtain ⟨Pa, Pb, m, m', htr, hlk⟩ := HR.out
     have HT := hide htr
     have HLK := hide hlk
     clear htr hlk HR
     go_wp2_with fail
     refine (mimage_is HT.out.b).mono ?_
     rintro e v1 ⟨q1, r1, s1, rfl, o1, b1⟩
     rw [HLK.out.img] at o1
     have HO1 := hide o1.by_
     have HT1 := hide (HT.out.below b1)
     clear o1 b1
     go_wp2_with fail
     refine (mimage_is HT1.out.a).mono ?_
     rintro e v2 ⟨q2, r2, s2, rfl, o2, b2⟩
     have HE1 := hide (equalS_any (HO1.out.below b2) o2.by_)
     have HT2 := hide (HT1.out.below b2)
     clear o2 b2
     go_wp2_with fail
     refine HE1.out.mono ?_
     rintro e v ⟨rfl, rfl⟩
     go_wp2_with fail
     refine (mtraces_is HT2.out.b).mono ?_
     rintro e v3 ⟨q3, r3, s3, rfl, o3, b3⟩
     have HO3 := hide o3
     have HT3 := hide (HT2.out.below b3)
     clear o3 b3
     go_wp2_with fail
     refine (mtraces_is HT3.out.a).mono ?_
     rintro e v4 ⟨q4, r4, s4, rfl, o4, b4⟩
     have HE2 := hide (eqTrs_any (HO3.out.below b4) o4 HLK.out.fst.symm)
     have HT4 := hide (HT3.out.below b4)
     clear o4 b4
     go_wp2_with fail
     refine HE2.out.mono ?_
     rintro e v5 ⟨rfl, h5⟩
     have HB9 := hide (HT4.out.below h5).bel
     clear h5
     go_wp2_with fail
     refine (mawake_any (HE.out.below HB9.out)).mono ?_
     rintro e wz ⟨rfl, hbz⟩
     go_wp2_with fail
     go_ret
     exact ⟨rfl, bthen HB9.out hbz⟩
end Go.Proofs.YtionbmlicmibgaaGreatDoor
namespace Go.Proofs.YtionbmlicmibgaaGreatDoor.machineBack
open Go.ChangeShapes Go.WideShapes Go.ChangeAt Go.RowKit
open Go.ChangeMaps (open_string shut_string)
set_option linter.unusedVariables false
theorem laidOut : laidOutB Tryz.prog = true := by kernel_rfl
set_option maxRecDepth 100000 in
theorem reads (os : Os) {H : Type} (enc : TypeId × Value → H) : ∃ places, DataW.whole enc Tryz.prog ((laidWorld os).forCall (fun _ _ => 0) ⟨#[], #[.slice none 0 0, .slice none 0 0], []⟩).memory Tryz.f8.params.toList Rows.machineBackSpec.vars false (#[.slice none 0 0, .slice none 0 0] : Array Value).toList 8 = some ([.nil, .nil], [], places) :=
 ⟨[], by kernel_rfl⟩
set_option maxRecDepth 100000 in
theorem lifted (os : Os) (started : os.Started) (H : Type) (enc : TypeId × Value → H) (F : Stop.Interp) :
  ReturnsInHanded {} Tryz.checked os 8 .any ((Rows.OpenSpec.upto Rows.machineBackSpec).preRow enc Tryz.prog Tryz.f8 Rows.machineBackUptoRow.domain false Rows.machineBackUptoRow.laid) (((Rows.OpenSpec.upto Rows.machineBackSpec).at F).post enc Tryz.prog Tryz.f8 false true false false) := by
 obtain ⟨places, hx⟩ := reads os enc
 refine returnsInHanded_of_row (C := Tryz.checked) (s := Rows.OpenSpec.upto Rows.machineBackSpec) Tryz.own started (by kernel_rfl) Tryz.func8
  (witness_row_at (enc := enc) (C := Tryz.checked) false (laidWorld os) #[.slice none 0 0, .slice none 0 0] rfl (by kernel_rfl) (by kernel_rfl) (by kernel_rfl)
   (OpenSpec.preRow_of_cond 8 hx (by kernel_rfl) (fun k hk => by cases hk; kernel_rfl) (by kernel_rfl) (laidWorld_met os _))) ?_
 intro W base args ds gs before hval0 hW _ hcond hsz0 hL _ _
 have hk := hcond _ rfl
 have hErr := errT_of_laid hL
 have hval : ∀ (j : Nat) t v, Tryz.f8.params[j]? = some t → args[j]? = some v → Value.okWide Tryz.prog W .any base t v := hval0
 have hW' := hW
 obtain ⟨p, q, hA0, hV, rfl, hfz, hnd⟩ := hW
 have hA : DataW.TrodAll enc Tryz.prog W 0 (fun _ => true) true Tryz.f8.params.toList args.toList ds p := hA0
 rw [Tryz.params8] at hA hval
 obtain ⟨v0, vs0, d0, ds0, p0, q0, hargs, rfl, rfl, h0, r0⟩ := trodAll_cons hA
 obtain ⟨v1, vs1, d1, ds1, p1, q1, rfl, rfl, rfl, h1, r1⟩ := trodAll_cons r0
 obtain ⟨rfl, rfl, rfl⟩ := trodAll_nil r1
 obtain rfl : args = #[v0, v1] := by cases args; simp_all
 obtain ⟨rfl, rfl⟩ := trodVars_none hV
 obtain ⟨a0, len0, cap0, rfl⟩ := okWide_slice Tryz.underlying45 (hval 0 45 v0 rfl rfl)
 have k0 := h0
 have lt0 : ∀ x ∈ p0, x.block < W.heap.size := by obtain ⟨m, hm⟩ := k0; exact DataW.trod_lt m _ _ _ hm
 obtain ⟨a1, len1, cap1, rfl⟩ := okWide_slice Tryz.underlying45 (hval 1 45 v1 rfl rfl)
 have k1 := h1
 have lt1 : ∀ x ∈ p1, x.block < W.heap.size := by obtain ⟨m, hm⟩ := k1; exact DataW.trod_lt m _ _ _ hm
 obtain ⟨D0, hl0, hD0, hk0⟩ := dms_of_arg h0
 have hb0 : Rows.uptoBulk d0 ≤ 1048576 := by
  have h : Rows.uptoBulkAll _ ≤ 1048576 := of_decide_eq_true hk
  exact Nat.le_trans (bulk_part (by simp)) h
 obtain ⟨D1, hl1, hD1, hk1⟩ := dms_of_arg h1
 have hb1 : Rows.uptoBulk d1 ≤ 1048576 := by
  have h : Rows.uptoBulkAll _ ≤ 1048576 := of_decide_eq_true hk
  exact Nat.le_trans (bulk_part (by simp)) h
 clear hA0 hval0
 refine (lawMBack_any hErr hD0 (fun d hd => Nat.le_trans (hk0 d hd) hb0) hD1 (fun d hd => Nat.le_trans (hk1 d hd) hb1)).mono fun e W' ⟨he, bel⟩ => ?_
 subst he
 exact ⟨_, rfl, _, _, _, [], _, [], hW', trodAll_mk1 (shut_bool Tryz.underlying4 _), (trodAll_cons_mk (Below.trod laidOut (by kernel_rfl) (of_decide_eq_true (by kernel_rfl)) k0 bel lt0) (trodAll_cons_mk (Below.trod laidOut (by kernel_rfl) (of_decide_eq_true (by kernel_rfl)) k1 bel lt1) trodAll_mk0)), rfl, bel.frame _, fun h => by cases h⟩
set_option maxHeartbeats 16000000 in
theorem cl : joinedFacts Tryz.pinned.checked.prog 8 Tryz.f8 Rows.machineBackSpec Rows.machineBackUptoRow = true := by
 unfold joinedFacts
 simp only [Bool.and_eq_true]
 repeat' apply And.intro
 all_goals (as_aux_lemma => kernel_rfl)
theorem fnm : Tryz.pinned.checked.prog.funcNamed Rows.machineBackUptoRow.func = some 8 := by kernel_rfl
theorem inst : Tryz.f8.isInstance Tryz.pinned.checked.prog Rows.machineBackUptoRow.origin Rows.machineBackUptoRow.targs := of_decide_eq_true (by kernel_rfl)
theorem wr : Tryz.f8.isWrapper Tryz.pinned.checked.prog Rows.machineBackUptoRow.wrapper Rows.machineBackUptoRow.mainSum := by unfold Func.isWrapper; first | (rw [if_pos (by decide +kernel)]; kernel_rfl) | (rw [if_neg (by decide +kernel)]; exact ⟨rfl, rfl⟩)
theorem over : Rows.MachineBackUptoSaid :=
 OpenClaim.holds_of_cond 8 Tryz.f8 rfl rfl rfl rfl rfl rfl rfl ⟨rfl, rfl, rfl, rfl, rfl⟩ rfl rfl rfl rfl rfl fnm Tryz.func8 cl inst wr (fun os started H enc _ F => by rw [OpenClaim.pre_eq_preRow]; exact lifted os started H enc F)
theorem named : Tryz.prog.funcNamed "spandrel/spandrellaw09.MachineBack" = some 8 := by kernel_rfl
theorem noStand : ∀ t ∈ [45, 45], Tryz.prog.wantsStandIn t = false := by
 intro t ht
 simp only [List.mem_cons, List.not_mem_nil, or_false] at ht
 rcases ht with rfl | rfl <;> kernel_rfl
theorem proved : Rows.MachineBackUptoCardSaid :=
 Claim7.holds_tied_plain_at .later [] [.handle] true (true, "73e4509f8480c2613f465c6520d6329ec038b933e0a1ed9711b57278fe54956a") true
  over (fun _ h => by cases h) (by kernel_rfl) (fun _ h => by cases h) machineBackUpto_row_tie rfl ⟨rfl, rfl⟩ (by kernel_rfl) rfl
  (fun f fn hf hfn => by
   obtain rfl : f = 8 := Option.some.inj (named.symm.trans hf) |>.symm
   obtain rfl : fn = Tryz.f8 := (Option.some.inj (Tryz.func8.symm.trans hfn)).symm
   exact ⟨by kernel_rfl, fun j t ht => by
    rw [Tryz.params8] at ht
    exact noStand t (by
     have := Array.mem_of_getElem? ht
     simpa using this)⟩)
  (by kernel_rfl)
end Go.Proofs.YtionbmlicmibgaaGreatDoor.machineBack
