/- Machines that did the same entries answer the same, whatever a third one does meanwhile: the law MachineSame returns true, for arguments of bulk at most 1048576. Condition: errors.errorType holds what the program's text lays there (the card ties it). -/
import Derived.Test.YtionbmlicmibgaaGreatDoorRows
import Derived.Test.YtionbmlicmibgaaGreatDoorMcErr
import Derived.ChangeSame
import Derived.ChangeVars
import Derived.JoinedOf
import Derived.RowKit
import Derived.RowKitTokens
import Derived.LaidLaws
import Derived.LaidHandle
import Derived.Stop.Joined
import Derived.Test.YtionbmlicmibgaaGreatDoorMcEnt
import Derived.Test.YtionbmlicmibgaaGreatDoorMcKit
import Derived.Test.YtionbmlicmibgaaGreatDoorCards
import Derived.Test.YtionbmlicmibgaaGreatDoorTie
import Derived.Test.YtionbmlicmibgaaGreatDoorMcArg
import Derived.SevenTiedAt
import Derived.Deep.DeepHandedRow
import Derived.WalkKit
import Derived.ProofKit
import Derived.OpenShut
import Derived.ShutString
import Derived.ChangeOld
import Derived.Below
import Derived.SizedLaws
namespace Go.Proofs.YtionbmlicmibgaaGreatDoor
set_option linter.unusedVariables false
set_option linter.unusedSimpArgs false
open Go.ChangeShapes Go.WideShapes Go.RowKit

theorem Tryz.own : ownKnob Tryz.prog.godebug = none := by kernel_rfl
theorem Tryz.et : Tryz.prog.globalNamed "errors.errorType" = some 0 := by kernel_rfl
theorem Tryz.rt : (Tryz.prog.cutTypes.find? (·.1 == "internal/reflectlite.rtype")).map (·.2) = some 242 := by kernel_rfl
theorem Tryz.oneRow : ((List.range 334).filter fun t => Tryz.prog.rowNamed t [101, 114, 114, 111, 114]) = [175] := by kernel_rfl
theorem Tryz.size : Tryz.prog.types.size = 334 := by kernel_rfl
/-- What is laid. -/
def laidL : List (String × DataW Unit) := [("errors.errorType", Rows.laid_errors_errorType)]
theorem errT_of_laid {W : World} (h : laidMetH Tryz.prog laidL W) : ErrT W := by
 have h' : laidMet Tryz.prog [] W ∧ handlesMet Tryz.prog laidL W := h
 obtain ⟨name, u, ty, e1, e2, e3, e4, e5⟩ := h'.2 _ (List.mem_singleton.2 rfl)
 have en : name = [101, 114, 114, 111, 114] := (Option.some.inj e1).symm
 subst en
 obtain rfl := Option.some.inj (Tryz.rt.symm.trans e2)
 have hm : ty ∈ (List.range 334).filter fun t => Tryz.prog.rowNamed t [101, 114, 114, 111, 114] := List.mem_filter.2 ⟨List.mem_range.2 (by rw [← Tryz.size]; exact e3), e4⟩
 rw [Tryz.oneRow] at hm
 obtain rfl := List.mem_singleton.1 hm
 have hh : typeHandle Tryz.prog 175 = .pointer (some ⟨2, 175, none⟩) := by kernel_rfl
 rw [hh] at e5
 have h9 := World.var?_cell Tryz.et e5 0
 unfold ErrT
 simpa using h9
/-- A world that meets the condition. -/
noncomputable def laidWorld (os : Os) : World :=
 let w0 := World.holding Tryz.prog os ⟨#[], #[], []⟩
 { w0 with heap := w0.heap.modify 0 fun
   | .cells _ t frozen => .cells #[.iface 242 (.agg #[.pointer (some ⟨2, 175, none⟩)])] t frozen
   | o => o }
theorem laidWorld_met (os : Os) (args : Array Value) : laidMetH Tryz.prog laidL ((laidWorld os).forCall (fun _ _ => 0) ⟨#[], args, []⟩).memory :=
 laidMetH_of_parts (laidMet_nil _ _) (by kernel_rfl)
end Go.Proofs.YtionbmlicmibgaaGreatDoor
namespace Go.Proofs.YtionbmlicmibgaaGreatDoor
set_option linter.unusedVariables false
set_option linter.unusedSimpArgs false
open Go.RowKit

/-- The same, and what becomes of the bytes where other blocks change: they are the argument's own, or lie in new blocks. -/
def EntP2 (w : World) (d : Dm) (ix t : Int) (e : Ending) (w' : World) : Prop := ∃ p n c, e = .returned (.agg #[.int .i64 (d.eI ix), .int .i64 (d.eT t), .slice p n c]) ∧ By w' (.slice p n c) d.eL ∧ Below w.heap.size w w' ∧ (((p = d.p3 ∧ n = d.n3 ∧ c = d.d3) ∧ d.eL = d.by_) ∨ ∀ (A : Nat → Prop) U, Chg w' U A → (∀ k, A k → k < w.heap.size) → By U (.slice p n c) d.eL)
/-- Bytes of one's own, read on where lower blocks changed. -/
theorem Own.byFar {B : Nat} {A : Nat → Prop} {w w' : World} {v : Value} {l : List UInt8} (h : Own B w v l) (hc : Chg w w' A) (hA : ∀ k, A k → k < B) : By w' v l := by
  rcases h with ⟨rfl, rfl⟩ | ⟨g, cap, rfl, hB, hl, hm, hx, _, _⟩
  · exact By.nil _
  · refine ⟨some ⟨g, 0, none⟩, cap, rfl, hl, hm, (fun e => by cases e), fun a ha i x hi => ?_⟩
    injection ha with ha
    subst ha
    rw [add_lit0, Nat.zero_add]
    exact hc.cell (hx i x hi) (fun e => by have := hA g e; omega)
set_option maxRecDepth 200000 in
set_option maxHeartbeats 8000000 in
theorem mentry2_any {w : World} {d : Dm} (h : DmIn w d) (hnm : ∀ x ∈ d.sp, x.n.size ≤ 1100000) {ix t : Int} (hix : 0 ≤ ix ∧ ix ≤ 1099511627776) (ht : 0 ≤ t ∧ t ≤ 1099511627776) : Calls Tryz.prog 31 #[.agg (dmC d).toArray, .int .i64 ix, .int .i64 t] w (EntP2 w d ix t) := by
  obtain ⟨op, k, se, sq, a, p1, n1, d1, p2, n2, d2, tm, ei, et, p3, n3, d3, sp, vo, by_⟩ := d
  have HIN := hide h
  have HCM : Hid (CmAt w (.slice p1 n1 d1) (.slice p2 n2 d2) ⟨k, se, sq, a, sp, vo⟩) := hide ⟨h.sp, h.vo, hnm⟩
  have HDT := hide (dtK_le tm)
  have hb0 := (Below.refl w.heap.size w).alloc (Nat.le_refl _) (.cells #[.int .i64 op, .int .i64 k, .int .i64 se, .int .i64 sq, .int .i64 a, .slice p1 n1 d1, .slice p2 n2 d2, .int .i64 tm, .int .i64 ei, .int .i64 et, .slice p3 n3 d3] 57)
  have hb1 := hb0.alloc (o := .cells #[.int .i64 0, .int .i64 0, .slice none 0 0] 55) hb0.size
  have hs0 : (w.alloc (.cells #[.int .i64 op, .int .i64 k, .int .i64 se, .int .i64 sq, .int .i64 a, .slice p1 n1 d1, .slice p2 n2 d2, .int .i64 tm, .int .i64 ei, .int .i64 et, .slice p3 n3 d3] 57)).heap.size = w.heap.size + 1 := by simp
  have hr1 : RowE ((w.alloc (.cells #[.int .i64 op, .int .i64 k, .int .i64 se, .int .i64 sq, .int .i64 a, .slice p1 n1 d1, .slice p2 n2 d2, .int .i64 tm, .int .i64 ei, .int .i64 et, .slice p3 n3 d3] 57)).alloc (.cells #[.int .i64 0, .int .i64 0, .slice none 0 0] 55)) (w.heap.size + 1) 0 0 (.slice none 0 0) := by unfold RowE; rw [← hs0]; exact heap_alloc_new _ _
  have hr0 : ((w.alloc (.cells #[.int .i64 op, .int .i64 k, .int .i64 se, .int .i64 sq, .int .i64 a, .slice p1 n1 d1, .slice p2 n2 d2, .int .i64 tm, .int .i64 ei, .int .i64 et, .slice p3 n3 d3] 57)).alloc (.cells #[.int .i64 0, .int .i64 0, .slice none 0 0] 55)).heap[w.heap.size]? = some (.cells #[.int .i64 op, .int .i64 k, .int .i64 se, .int .i64 sq, .int .i64 a, .slice p1 n1 d1, .slice p2 n2 d2, .int .i64 tm, .int .i64 ei, .int .i64 et, .slice p3 n3 d3] 57 (0, 0)) := (((Below.refl _ (w.alloc (.cells #[.int .i64 op, .int .i64 k, .int .i64 se, .int .i64 sq, .int .i64 a, .slice p1 n1 d1, .slice p2 n2 d2, .int .i64 tm, .int .i64 ei, .int .i64 et, .slice p3 n3 d3] 57))).alloc (Nat.le_refl _) (.cells #[.int .i64 0, .int .i64 0, .slice none 0 0] 55)).block w.heap.size (by omega)).trans (heap_alloc_new w (.cells #[.int .i64 op, .int .i64 k, .int .i64 se, .int .i64 sq, .int .i64 a, .slice p1 n1 d1, .slice p2 n2 d2, .int .i64 tm, .int .i64 ei, .int .i64 et, .slice p3 n3 d3] 57))
  have hix1 : IntKind.i64.wrap (ix + 1) = ix + 1 := IntWalk.i64_in _ (by omega)
  obtain ⟨Q, hQ⟩ : ∃ q, dqK op = q := ⟨_, rfl⟩
  have hQ' : wrap64 ((IntKind.u64.wrap op).tmod 6) = Q := hQ
  obtain ⟨M, hM⟩ : ∃ q, max t 1 = q := ⟨_, rfl⟩
  have hM2 : 1 ≤ M ∧ M ≤ 1099511627776 := by omega
  unfold dmC
  dsimp only
  unfold EntP2 Dm.eI Dm.eT Dm.eL Dm.c
  dsimp only
  rw [hQ]
  clear h hnm
  obtain ⟨X, hX⟩ : ∃ X, (w.alloc (.cells #[.int .i64 op, .int .i64 k, .int .i64 se, .int .i64 sq, .int .i64 a, .slice p1 n1 d1, .slice p2 n2 d2, .int .i64 tm, .int .i64 ei, .int .i64 et, .slice p3 n3 d3] 57)).alloc (.cells #[.int .i64 0, .int .i64 0, .slice none 0 0] 55) = X := ⟨_, rfl⟩
  obtain ⟨b, hb⟩ : ∃ b, w.heap.size = b := ⟨_, rfl⟩
  obtain ⟨r, hr⟩ : ∃ r, b + 1 = r := ⟨_, rfl⟩
  rw [hX] at hb1 hr1 hr0
  have HBX : Hid (Below w.heap.size w X) := hide hb1
  rw [hb] at hr0 hr1
  rw [hr] at hr1
  have HRB : Hid (w.heap.size ≤ r) := hide (by omega)
  have HR1 := hide hr1
  have HR0 := hide hr0
  have cc : ∀ i u, #[.int .i64 op, .int .i64 k, .int .i64 se, .int .i64 sq, .int .i64 a, .slice p1 n1 d1, .slice p2 n2 d2, .int .i64 tm, .int .i64 ei, .int .i64 et, .slice p3 n3 d3][i]? = some u → X.cell? ⟨b, i, none⟩ = some u := fun i u hi => (cell_of_row X b i _ 57 (0, 0) hr0).trans hi
  have x0 := cc 0 _ rfl
  have x1 := cc 1 _ rfl
  have x2 := cc 2 _ rfl
  have x3 := cc 3 _ rfl
  have x4 := cc 4 _ rfl
  have x5 := cc 5 _ rfl
  have x6 := cc 6 _ rfl
  have x7 := cc 7 _ rfl
  have x8 := cc 8 _ rfl
  have x9 := cc 9 _ rfl
  have x10 := cc 10 _ rfl
  obtain ⟨z0, z1, z2⟩ := hr1.z
  obtain ⟨f0, f1, f2⟩ := hr1.f
  clear hb0 hb1 hs0 hr1 hr0 cc
  by_cases h5 : Q = 5
  · have e5 : (Q == 5) = true := by simpa using h5
    rw [if_pos h5, if_pos h5, if_pos h5]
    go_enter Tryz.func31, Tryz.ntmps31
    go_wp2_with fail
    have hst := HR1.out.set ei et (.slice p3 n3 d3)
    have hcs := chgS (chgS (chg_set X r 0 (.int .i64 ei)) (chg_set (X.setCell ⟨r, 0, none⟩ (.int .i64 ei)) r 1 (.int .i64 et))) (chg_set ((X.setCell ⟨r, 0, none⟩ (.int .i64 ei)).setCell ⟨r, 1, none⟩ (.int .i64 et)) r 2 (.slice p3 n3 d3))
    have HBZ := hide (Chg.to_below HBX.out hcs (fun j e => by rw [e]; exact HRB.out))
    refine bodyPost_ret (v := .agg #[.int .i64 ei, .int .i64 et, (.slice p3 n3 d3)]) (by
      generalize ((X.setCell ⟨r, 0, none⟩ (.int .i64 ei)).setCell ⟨r, 1, none⟩ (.int .i64 et)).setCell ⟨r, 2, none⟩ (.slice p3 n3 d3) = W9 at hst ⊢
      obtain ⟨m0, m1, m2⟩ := hst.z
      simp [results, Tryz.results31, go_sem, m0, m1, m2]) rfl ?_
    exact ⟨_, _, _, rfl, HIN.out.by_.below HBZ.out, HBZ.out, .inl ⟨⟨by trivial, by trivial, by trivial⟩, by trivial⟩⟩
  · have e5 : (Q == 5) = false := by simpa using h5
    rw [if_neg h5, if_neg h5, if_neg h5]
    by_cases h4 : Q = 4
    · have e4 : (Q == 4) = true := by simpa using h4
      rw [if_pos h4, if_pos h4]
      rw [hM]
      go_enter Tryz.func31, Tryz.ntmps31
      go_wp2_with fail
      have hst := HR1.out.set (ix + 1) M (.slice p3 n3 d3)
      have hcs := chgS (chgS (chg_set X r 0 (.int .i64 (ix + 1))) (chg_set (X.setCell ⟨r, 0, none⟩ (.int .i64 (ix + 1))) r 1 (.int .i64 M))) (chg_set ((X.setCell ⟨r, 0, none⟩ (.int .i64 (ix + 1))).setCell ⟨r, 1, none⟩ (.int .i64 M)) r 2 (.slice p3 n3 d3))
      have HBZ := hide (Chg.to_below HBX.out hcs (fun j e => by rw [e]; exact HRB.out))
      refine bodyPost_ret (v := .agg #[.int .i64 (ix + 1), .int .i64 M, (.slice p3 n3 d3)]) (by
        generalize ((X.setCell ⟨r, 0, none⟩ (.int .i64 (ix + 1))).setCell ⟨r, 1, none⟩ (.int .i64 M)).setCell ⟨r, 2, none⟩ (.slice p3 n3 d3) = W9 at hst ⊢
        obtain ⟨m0, m1, m2⟩ := hst.z
        simp [results, Tryz.results31, go_sem, m0, m1, m2]) rfl ?_
      exact ⟨_, _, _, rfl, HIN.out.by_.below HBZ.out, HBZ.out, .inl ⟨⟨by trivial, by trivial, by trivial⟩, by trivial⟩⟩
    · have e4 : (Q == 4) = false := by simpa using h4
      rw [if_neg h4, if_neg h4]
      rw [hM]
      obtain ⟨Z, hZ⟩ : ∃ q, dtK tm = q := ⟨_, rfl⟩
      have hZ' : wrap64 ((IntKind.u64.wrap tm).tmod 2) = Z := hZ
      rw [hZ] at HDT ⊢
      have hMZ : IntKind.i64.wrap (M + Z) = M + Z := IntWalk.i64_in _ (by have := HDT.out; omega)
      have HPU := hide (putP_is (rput_any (HCM.out.below HBX.out)))
      unfold cmV at HPU
      dsimp only at HPU
      go_enter Tryz.func31, Tryz.ntmps31
      go_wp2_with fail
      refine HPU.out.mono ?_
      rintro e w8 ⟨p8, n8, d8, rfl, hby8, hb8⟩
      have HB8 : Hid (Below w.heap.size w w8) := hide (HBX.out.trans (hb8.mono HBX.out.size))
      have HR2 := hide (HR1.out.below hb8)
      have HBY := hide hby8
      have hrr0 := (hb8.block b (Array.getElem?_eq_some_iff.1 HR0.out).1).trans HR0.out
      clear z0 z1 z2 f0 f1 f2 x0 x1 x2 x3 x4 x5 x6 x7 x8 x9 x10
      have x7 : w8.cell? ⟨b, 7, none⟩ = some (.int .i64 tm) := cell_of_row w8 b 7 _ 57 (0, 0) hrr0
      obtain ⟨z0, z1, z2⟩ := HR2.out.z
      obtain ⟨f0, f1, f2⟩ := HR2.out.f
      clear hby8 hb8 HPU hrr0
      go_wp2_with fail
      have hst := HR2.out.set (ix + 1) (M + Z) (.slice p8 n8 d8)
      have hcs := chgS (chgS (chg_set w8 r 0 (.int .i64 (ix + 1))) (chg_set (w8.setCell ⟨r, 0, none⟩ (.int .i64 (ix + 1))) r 1 (.int .i64 (M + Z)))) (chg_set ((w8.setCell ⟨r, 0, none⟩ (.int .i64 (ix + 1))).setCell ⟨r, 1, none⟩ (.int .i64 (M + Z))) r 2 (.slice p8 n8 d8))
      have HBZ := hide (Chg.to_below HB8.out hcs (fun j e => by rw [e]; exact HRB.out))
      refine bodyPost_ret (v := .agg #[.int .i64 (ix + 1), .int .i64 (M + Z), (.slice p8 n8 d8)]) (by
        generalize ((w8.setCell ⟨r, 0, none⟩ (.int .i64 (ix + 1))).setCell ⟨r, 1, none⟩ (.int .i64 (M + Z))).setCell ⟨r, 2, none⟩ (.slice p8 n8 d8) = W9 at hst ⊢
        obtain ⟨m0, m1, m2⟩ := hst.z
        simp [results, Tryz.results31, go_sem, m0, m1, m2]) rfl ?_
      exact ⟨_, _, _, rfl, (HBY.out.byOff hcs (by have := HR1.out.lt; omega)), HBZ.out, .inr (fun A U hU hA => HBY.out.byFar (Chg.trans (hcs.mono (S' := fun k => k = r ∨ A k) (fun k e => .inl e)) hU (fun k e => .inl (.inr e))) (fun k e => by
        have h1 := HR1.out.lt
        have h2 := HBX.out.size
        rcases e with rfl | e
        · exact h1
        · have := hA k e; omega))⟩
end Go.Proofs.YtionbmlicmibgaaGreatDoor
namespace Go.Proofs.YtionbmlicmibgaaGreatDoor
set_option linter.unusedVariables false
set_option linter.unusedSimpArgs false
open Go.RowKit

theorem rp_neqB (x y : Rp) (w : World) : (binOp .neq 66 (.agg (rpC x).toArray) (.agg (rpC y).toArray)).run Tryz.prog w = .ok (.bool (!decide (x = y))) w := by
  have h := rp_eql x y w
  rw [run_eql_struct] at h
  rw [run_neq_struct]
  cases hr : (Op.equalIn 10000 66 (.agg (rpC x).toArray) (.agg (rpC y).toArray)).run Tryz.prog w with
  | ok b w' =>
    rw [hr] at h
    simp only [Result.andThen_ok, Result.ok.injEq, Value.bool.injEq] at h ⊢
    rw [h.1]
    exact ⟨rfl, h.2⟩
  | halt x w' =>
    rw [hr] at h
    simp [Result.andThen] at h
/-- Three machines, each with its blocks, all made since w0. -/
structure Tri (w0 w : World) (ga gb gc : Nat) (Pa Pb Pc : Pm) (a b c : Mp) : Prop where
  a : MkIs w ga Pa a
  b : MkIs w gb Pb b
  c : MkIs w gc Pc c
  ab : ∀ k, (k = ga ∨ McS Pa k) → (k = gb ∨ McS Pb k) → False
  bc : ∀ k, (k = gb ∨ McS Pb k) → (k = gc ∨ McS Pc k) → False
  ca : ∀ k, (k = gc ∨ McS Pc k) → (k = ga ∨ McS Pa k) → False
  la : ∀ k, (k = ga ∨ McS Pa k) → w0.heap.size ≤ k
  lb : ∀ k, (k = gb ∨ McS Pb k) → w0.heap.size ≤ k
  lc : ∀ k, (k = gc ∨ McS Pc k) → w0.heap.size ≤ k
  bel : Below w0.heap.size w0 w
section
variable {w0 w w' : World} {ga gb gc : Nat} {Pa Pb Pc Pa' : Pm} {a b c a' : Mp}
theorem Tri.rot (h : Tri w0 w ga gb gc Pa Pb Pc a b c) : Tri w0 w gb gc ga Pb Pc Pa b c a := ⟨h.b, h.c, h.a, h.bc, h.ca, h.ab, h.lb, h.lc, h.la, h.bel⟩
theorem Tri.below (h : Tri w0 w ga gb gc Pa Pb Pc a b c) (hb : Below w.heap.size w w') : Tri w0 w' ga gb gc Pa Pb Pc a b c := ⟨h.a.below hb, h.b.below hb, h.c.below hb, h.ab, h.bc, h.ca, h.la, h.lb, h.lc, bthen h.bel hb⟩
theorem MkIs.zone (h : MkIs w ga Pa a) : ∀ k, (k = ga ∨ McS Pa k) → k < w.heap.size := fun k hk => by
  rcases hk with rfl | hk
  · exact h.lt
  · exact h.is.lt k hk
theorem Tri.step (h : Tri w0 w ga gb gc Pa Pb Pc a b c) (ht : McTs w w' ga Pa Pa' a') : Tri w0 w' ga gb gc Pa' Pb Pc a' b c := by
  have hz : ∀ k, (k = ga ∨ McS Pa' k) → (k = ga ∨ McS Pa k) ∨ w.heap.size ≤ k := fun k hk => by
    rcases hk with e | e
    · exact .inl (.inl e)
    · rcases ht.new k e with e | e
      · exact .inl (.inr e)
      · exact .inr e
  have hlow := h.bel.size
  exact ⟨ht.am, h.b.chgS ht.chg (fun k hk e => h.ab k (.inr e) (.inr hk)) (fun e => h.a.is.nz 0 e rfl) (fun e => h.ab gb (.inr e) (.inl rfl)), h.c.chgS ht.chg (fun k hk e => h.ca k (.inr hk) (.inr e)) (fun e => h.a.is.nz 0 e rfl) (fun e => h.ca gc (.inl rfl) (.inr e)),
    fun k hk hk2 => by
      rcases hz k hk with e | e
      · exact h.ab k e hk2
      · have := h.b.zone k hk2; omega, h.bc, fun k hk2 hk => by
      rcases hz k hk with e | e
      · exact h.ca k hk2 e
      · have := h.c.zone k hk2; omega,
    fun k hk => by
      rcases hz k hk with e | e
      · exact h.la k e
      · omega, h.lb, h.lc, Chg.to_below h.bel ht.chg (fun k e => h.la k (.inr e))⟩
theorem Tri.beg {w1 w2 w3 : World} {m : Mp} (h0 : Below w0.heap.size w0 w) (ha : MkIs w1 ga Pa m) (na : ∀ k, McS Pa k → w.heap.size ≤ k) (ka : w.heap.size ≤ ga) (b1 : Below w.heap.size w w1)
    (hb : MkIs w2 gb Pb m) (nb : ∀ k, McS Pb k → w1.heap.size ≤ k) (kb : w1.heap.size ≤ gb) (b2 : Below w1.heap.size w1 w2)
    (hc : MkIs w3 gc Pc m) (nc : ∀ k, McS Pc k → w2.heap.size ≤ k) (kc : w2.heap.size ≤ gc) (b3 : Below w2.heap.size w2 w3) : Tri w0 w3 ga gb gc Pa Pb Pc m m m := by
  have s0 := h0.size
  have s1 := b1.size
  have s2 := b2.size
  have za := ha.zone
  have zb := hb.zone
  have ya : ∀ k, (k = ga ∨ McS Pa k) → w.heap.size ≤ k := fun k hk => by
    rcases hk with rfl | hk
    · exact ka
    · exact na k hk
  have yb : ∀ k, (k = gb ∨ McS Pb k) → w1.heap.size ≤ k := fun k hk => by
    rcases hk with rfl | hk
    · exact kb
    · exact nb k hk
  have yc : ∀ k, (k = gc ∨ McS Pc k) → w2.heap.size ≤ k := fun k hk => by
    rcases hk with rfl | hk
    · exact kc
    · exact nc k hk
  exact ⟨(ha.below b2).below b3, hb.below b3, hc, fun k h1 h2 => by have := za k h1; have := yb k h2; omega, fun k h1 h2 => by have := zb k h1; have := yc k h2; omega, fun k h1 h2 => by have := za k h2; have := yc k h1; omega,
    fun k h1 => by have := ya k h1; omega, fun k h1 => by have := yb k h1; omega, fun k h1 => by have := yc k h1; omega, bthen (bthen (bthen h0 b1) b2) b3⟩
theorem equalS_any {W : World} {v u : Value} {l : List UInt8} (h1 : By W v l) (h2 : By W u l) : Calls Tryz.prog 20 #[v, u] W fun e w' => e = .returned (.bool true) ∧ W = w' := by
  have h := equal_any h1 h2
  rw [beq_self_eq_true] at h
  exact h
/-- Apply, as a step. -/
theorem mapply_ts {m : Mp} {gm : Nat} {P : Pm} (h : MkIs w gm P m) {ix tm : Int} {v : Value} {l : List UInt8} (hv : By w v l) (hl : l.length ≤ 1100000) : Calls Tryz.prog 32 #[.pointer (some ⟨gm, 0, none⟩), .agg #[.int .i64 ix, .int .i64 tm, v]] w fun e w' => e = .returned (.tuple #[rpV (appM m ix tm l).1, .int .i64 (appM m ix tm l).2.1]) ∧ ∃ P', McTs w w' gm P P' (appM m ix tm l).2.2 :=
  (mapply_any h hv hl).mono fun e w' ⟨h1, P', h2, h3⟩ => ⟨h1, P', h3, h2.gi, h2.new, h2.chg.mono (fun k e => e.sub)⟩
/-- One of an argument's calls, alone. -/
theorem Dms.one {p : Option Addr} {n cc j : Nat} {D : List Dm} {d : Dm} (h : Dms w (.slice p n cc) D) (hd : D[j]? = some d) (hj : j < n) {g o : Nat} (hp : p = some ⟨g, o, none⟩) : Dms w (.slice (some ⟨g, o + j * 11, none⟩) 1 (cc - j)) [d] := by
  obtain ⟨p', c', he, h1, h2, h3⟩ := h
  injection he with e1 e2 e3
  subst e1 e3
  refine ⟨_, _, rfl, by simp; omega, by omega, fun k x hk => ?_⟩
  obtain ⟨g', o', e4, hm, hx⟩ := h3 j d hd
  rw [hp] at e4
  injection e4 with e4
  injection e4 with e5 e6
  subst e5 e6
  match k, hk with
  | 0, hk =>
    injection hk with hk
    subst hk
    exact ⟨g, o + j * 11, rfl, hm, fun i y hy => by rw [Nat.zero_mul, Nat.add_zero]; exact hx i y hy⟩
  | k + 1, hk => cases hk
end
theorem elemDo : Tryz.prog.elem 45 = 57 := by simp [Program.elem, Tryz.underlying45]
theorem underDo : Tryz.prog.underlying 45 = some (.slice (Tryz.prog.elem 45)) := by rw [elemDo]; exact Tryz.underlying45
/-- One of many, cut out. -/
theorem slice_one (W : World) {g o n c j : Nat} (h : j < c) : (Instr.slice 45 (.slice (some ⟨g, o, none⟩) n c) (some (.int .i64 (j : Int))) (some (.int .i64 ((j : Int) + 1))) none).run Tryz.prog W = .ok (.slice (some ⟨g, o + j * 11, none⟩) 1 (c - j)) W := by
  rw [run_slice_lh W 45 _ _ _ underDo .i64 .i64 _ _ (by omega) (by omega) (by omega), elemDo, Tryz.sizeOf57]
  have e4 : ((j : Int)).toNat = j := by omega
  have e5 : ((j : Int) + 1).toNat = j + 1 := by omega
  simp only [e4, e5, Result.andThen, sliced]
  rw [if_neg (by omega), Nat.add_sub_cancel_left]
  simp [Addr.add]
end Go.Proofs.YtionbmlicmibgaaGreatDoor
namespace Go.Proofs.YtionbmlicmibgaaGreatDoor
set_option linter.unusedVariables false
set_option linter.unusedSimpArgs false
open Go.RowKit

set_option maxRecDepth 200000 in
set_option maxHeartbeats 16000000 in
theorem lawMSame_any {w : World} (hE : ErrT w) {p : Option Addr} {n c : Nat} {D : List Dm} (hD : Dms w (.slice p n c) D) (hbk : ∀ d ∈ D, d.by_.length ≤ 1048576) {p2 : Option Addr} {n2 c2 : Nat} {D2 : List Dm} (hD2 : Dms w (.slice p2 n2 c2) D2) (hbk2 : ∀ d ∈ D2, d.by_.length ≤ 1048576) : Calls Tryz.prog 9 #[.slice p n c, .slice p2 n2 c2] w fun e w' => e = .returned (.bool true) ∧ Below w.heap.size w w' := by
  have HE := hide hE
  have HD := hide hD
  have HD2 := hide hD2
  have HBK := hide (And.intro hbk hbk2)
  have HN : Hid (D.length = n ∧ D2.length = n2 ∧ n ≤ c ∧ c ≤ maxLen ∧ n2 ≤ c2 ∧ c2 ≤ maxLen) := hide (by
    obtain ⟨_, _, e1, a1, a2, _⟩ := hD
    obtain ⟨_, _, e2, b1, b2, _⟩ := hD2
    injection e1 with _ e1 e3
    injection e2 with _ e2 e4
    subst e3 e4
    omega)
  have HSH := hide (mshort_any hD)
  have hn9 : (n : Int) ≤ 9223372036854775807 := by have := HN.out; unfold maxLen at this; omega
  have hn8 : (n2 : Int) ≤ 9223372036854775807 := by have := HN.out; unfold maxLen at this; omega
  clear hE hD hD2 hbk hbk2
  go_enter Tryz.func9, Tryz.ntmps9
  go_wp2_with fail
  refine HSH.out.mono ?_
  rintro e w1 ⟨⟨q, rfl, hq⟩, hb1⟩
  have HB1 := hide hb1
  have HQ := hide hq
  clear hb1 hq HSH
  cases q
  · go_wp2_with fail
    refine (mawake_any (HE.out.below HB1.out)).mono ?_
    rintro e wz ⟨rfl, hbz⟩
    go_wp2_with fail
    go_ret
    exact ⟨rfl, bthen HB1.out hbz⟩
  · go_wp2_with fail
    refine (mshort_any (HD2.out.below HB1.out)).mono ?_
    rintro e w2 ⟨⟨q2, rfl, hq2⟩, hb2⟩
    have HB2 := hide (bthen HB1.out hb2)
    have HQ2 := hide hq2
    clear hb2 hq2
    cases q2
    · go_wp2_with fail
      refine (mawake_any (HE.out.below HB2.out)).mono ?_
      rintro e wz ⟨rfl, hbz⟩
      go_wp2_with fail
      go_ret
      exact ⟨rfl, bthen HB2.out hbz⟩
    · go_wp2_with fail
      refine (mbegun_any (HE.out.below HB2.out)).mono ?_
      rintro e w3 ⟨ga, Pa0, rfl, hm, hn, hg, hb⟩
      have HG3 := hide (And.intro hm (And.intro hn (And.intro hg hb)))
      have HB3 := hide (bthen HB2.out hb)
      clear hm hn hg hb
      go_wp2_with fail
      refine (mbegun_any (HE.out.below HB3.out)).mono ?_
      rintro e w4 ⟨gb, Pb0, rfl, hm, hn, hg, hb⟩
      have HG4 := hide (And.intro hm (And.intro hn (And.intro hg hb)))
      have HB4 := hide (bthen HB3.out hb)
      clear hm hn hg hb
      go_wp2_with fail
      refine (mbegun_any (HE.out.below HB4.out)).mono ?_
      rintro e w5 ⟨gc, Pc0, rfl, hm, hn, hg, hb⟩
      have HG5 := hide (And.intro hm (And.intro hn (And.intro hg hb)))
      have HB5 := hide (bthen HB4.out hb)
      clear hm hn hg hb
      have HT0 : Hid (Tri w w5 ga gb gc Pa0 Pb0 Pc0 ⟨0, 0, [0, 1, 2], [], []⟩ ⟨0, 0, [0, 1, 2], [], []⟩ ⟨0, 0, [0, 1, 2], [], []⟩) := hide (Tri.beg HB2.out HG3.out.1 HG3.out.2.1 HG3.out.2.2.1 HG3.out.2.2.2 HG4.out.1 HG4.out.2.1 HG4.out.2.2.1 HG4.out.2.2.2 HG5.out.1 HG5.out.2.1 HG5.out.2.2.1 HG5.out.2.2.2)
      clear HG3 HG4 HG5
      go_wp2_with fail
      go_loopw [52] (fun i wr => ∃ j : Nat, j ≤ n ∧ i = .int .i64 j ∧ Hid (∃ Pa Pb Pc m mc, Tri w wr ga gb gc Pa Pb Pc m m mc)) (fun i _ => n - (intOf i).toNat)
      case atStart => exact ⟨0, by omega, rfl, hide ⟨_, _, _, _, _, HT0.out⟩⟩
      case round =>
        obtain ⟨j, hj, rfl, HR⟩ := hrel
        by_cases hlt : j < n
        · obtain ⟨Pa, Pb, Pc, m, mc, htr⟩ := HR.out
          have HTR := hide htr
          obtain ⟨d, hd⟩ : ∃ y, D[j]? = some y := ⟨_, List.getElem?_eq_getElem (by have := HN.out.1; omega)⟩
          have hdm := List.mem_of_getElem? hd
          have HNM : Hid (∀ x ∈ d.sp, x.n.size ≤ 1100000) := hide (fun x hx => by have := ((HQ.out trivial).2 d hdm).2 x hx; omega)
          have HLE : Hid (d.eL.length ≤ 1100000) := hide (by
            have h1 := HBK.out.1 d hdm
            unfold Dm.eL
            split
            · omega
            · split
              · omega
              · unfold pB
                split
                · rename_i hok
                  have := Cm.bytes_len hok
                  omega
                · simp)
          obtain ⟨g, o, hgo, HDI⟩ : ∃ g o, p = some ⟨g, o, none⟩ ∧ Hid (∀ U, Below w.heap.size w U → DmIn U d ∧ ∀ (i : Nat) x, (dmC d)[i]? = some x → U.cell? ⟨g, o + j * 11 + i, none⟩ = some x) := by
            obtain ⟨p', c', hpe, _, _, hms⟩ := HD.out
            injection hpe with hpe1 hpe2 hpe3
            obtain ⟨g, o, e1, _, _⟩ := hms j d hd
            refine ⟨g, o, by rw [hpe1]; exact e1, hide fun U hU => ?_⟩
            obtain ⟨p'', c'', hpe', _, _, hms'⟩ := HD.out.below hU
            injection hpe' with hpe1' hpe2' hpe3'
            obtain ⟨g', o', e1', h2, h3⟩ := hms' j d hd
            rw [← hpe1'] at e1'
            rw [← hpe1, e1'] at e1
            injection e1 with e1
            injection e1 with e5 e6
            subst e5 e6
            exact ⟨h2, h3⟩
          subst hgo
          have HIX := hide (And.intro htr.a.is.ok.i0 htr.a.is.ok.i1)
          have HTM := hide (And.intro htr.a.is.ok.t0 htr.a.is.ok.t1)
          obtain ⟨hin, hc⟩ := HDI.out wr htr.bel
          clear hd hdm HR
          obtain ⟨op, k, se, sq, a, p1, n1, d1, q2, m2, d2, tm, ei, et, p3, n3, d3, sp, vo, by_⟩ := d
          dsimp only at HNM
          have c0 := hc 0 _ rfl
          rw [Nat.add_zero] at c0
          have c1 := hc 1 _ rfl
          have c2 := hc 2 _ rfl
          have c3 := hc 3 _ rfl
          have c4 := hc 4 _ rfl
          have c5 := hc 5 _ rfl
          have c6 := hc 6 _ rfl
          have c7 := hc 7 _ rfl
          have c8 := hc 8 _ rfl
          have c9 := hc 9 _ rfl
          have c10 := hc 10 _ rfl
          clear hc
          go_upto_region 11 with fail
          have hbA := (Below.refl wr.heap.size wr).alloc (Nat.le_refl _) (.cells #[.int .i64 op, .int .i64 k, .int .i64 se, .int .i64 sq, .int .i64 a, .slice p1 n1 d1, .slice q2 m2 d2, .int .i64 tm, .int .i64 ei, .int .i64 et, .slice p3 n3 d3] 57)
          have hrA := heap_alloc_new wr (.cells #[.int .i64 op, .int .i64 k, .int .i64 se, .int .i64 sq, .int .i64 a, .slice p1 n1 d1, .slice q2 m2 d2, .int .i64 tm, .int .i64 ei, .int .i64 et, .slice p3 n3 d3] 57)
          obtain ⟨W, hW⟩ : ∃ W, wr.alloc (.cells #[.int .i64 op, .int .i64 k, .int .i64 se, .int .i64 sq, .int .i64 a, .slice p1 n1 d1, .slice q2 m2 d2, .int .i64 tm, .int .i64 ei, .int .i64 et, .slice p3 n3 d3] 57) = W := ⟨_, rfl⟩
          rw [hW] at hbA hrA ⊢
          obtain ⟨b, hbb⟩ : ∃ b, wr.heap.size = b := ⟨_, rfl⟩
          have HTW := hide (htr.below hbA)
          have HNB : Hid (¬ McS Pa b ∧ ¬ McS Pb b ∧ ¬ McS Pc b) := hide ⟨fun e => by have := htr.a.is.lt b e; omega, fun e => by have := htr.b.is.lt b e; omega, fun e => by have := htr.c.is.lt b e; omega⟩
          rw [hbb] at hrA ⊢
          have HRB := hide hrA
          have HKR : Hid (∀ U : World, U.heap[b]? = some (.cells #[.int .i64 op, .int .i64 k, .int .i64 se, .int .i64 sq, .int .i64 a, .slice p1 n1 d1, .slice q2 m2 d2, .int .i64 tm, .int .i64 ei, .int .i64 et, .slice p3 n3 d3] 57 (0, 0)) → U.cell? ⟨b, 0, none⟩ = some (.int .i64 op) ∧ U.cell? ⟨b, 1, none⟩ = some (.int .i64 k) ∧ U.cell? ⟨b, 2, none⟩ = some (.int .i64 se) ∧ U.cell? ⟨b, 3, none⟩ = some (.int .i64 sq) ∧ U.cell? ⟨b, 4, none⟩ = some (.int .i64 a) ∧ U.cell? ⟨b, 5, none⟩ = some (.slice p1 n1 d1) ∧ U.cell? ⟨b, 6, none⟩ = some (.slice q2 m2 d2) ∧ U.cell? ⟨b, 7, none⟩ = some (.int .i64 tm) ∧ U.cell? ⟨b, 8, none⟩ = some (.int .i64 ei) ∧ U.cell? ⟨b, 9, none⟩ = some (.int .i64 et) ∧ U.cell? ⟨b, 10, none⟩ = some (.slice p3 n3 d3)) := hide fun U h1 => ⟨cell_of_row U b 0 _ 57 (0, 0) h1, cell_of_row U b 1 _ 57 (0, 0) h1, cell_of_row U b 2 _ 57 (0, 0) h1, cell_of_row U b 3 _ 57 (0, 0) h1, cell_of_row U b 4 _ 57 (0, 0) h1, cell_of_row U b 5 _ 57 (0, 0) h1, cell_of_row U b 6 _ 57 (0, 0) h1, cell_of_row U b 7 _ 57 (0, 0) h1, cell_of_row U b 8 _ 57 (0, 0) h1, cell_of_row U b 9 _ 57 (0, 0) h1, cell_of_row U b 10 _ 57 (0, 0) h1⟩
          clear hbA hrA hW hbb hin htr c0 c1 c2 c3 c4 c5 c6 c7 c8 c9 c10
          by_cases hlo : j < n2
          focus
            obtain ⟨d2', hd2⟩ : ∃ y, D2[j]? = some y := ⟨_, List.getElem?_eq_getElem (by have := HN.out.2.1; omega)⟩
            have hdm2 := List.mem_of_getElem? hd2
            obtain ⟨g2, o2, hgo2⟩ : ∃ g o, p2 = some ⟨g, o, none⟩ := by
              obtain ⟨p', c', hpe, _, _, hms⟩ := HD2.out
              injection hpe with hpe1 hpe2 hpe3
              obtain ⟨g, o, e1, _, _⟩ := hms j d2' hd2
              exact ⟨g, o, by rw [hpe1]; exact e1⟩
            subst hgo2
            have HPL := hide (mplay_any HTW.out.c (v := .slice (some ⟨g2, o2 + j * 11, none⟩) 1 (c2 - j)) (D := [d2']) (fun U hU => Dms.one (HD2.out.below (Chg.to_below HTW.out.bel hU (fun k e => HTW.out.lc k (.inr e)))) hd2 hlo rfl) (fun x hx => by rw [List.mem_singleton] at hx; subst hx; exact (HQ2.out trivial).2 _ hdm2) (fun x hx => by rw [List.mem_singleton] at hx; subst hx; exact HBK.out.2 _ hdm2))
            have hsl := fun (U : World) => slice_one U (g := g2) (o := o2) (n := n2) (c := c2) (j := j) (by have := HN.out; omega)
            have hjw : IntKind.i64.wrap ((j : Int) + 1) = (j : Int) + 1 := IntWalk.i64_in _ (by omega)
            clear hd2 hdm2
            go_wp2_with fail
            refine HPL.out.mono ?_
            rintro e W1 ⟨rfl, Pc1, hts⟩
            have HT1 := hide (HTW.out.rot.rot.step hts).rot
            have HRB1 : Hid (W1.heap[b]? = some (.cells #[.int .i64 op, .int .i64 k, .int .i64 se, .int .i64 sq, .int .i64 a, .slice p1 n1 d1, .slice q2 m2 d2, .int .i64 tm, .int .i64 ei, .int .i64 et, .slice p3 n3 d3] 57 (0, 0))) := hide ((hts.chg.block b (Array.getElem?_eq_some_iff.1 HRB.out).1 HNB.out.2.2).trans HRB.out)
            clear hts HPL hsl HTW HRB
          rotate_left 1
          focus
            have HT1 := HTW
            have HRB1 := HRB
            clear HTW HRB
            obtain ⟨W1, hW1⟩ : ∃ X, W = X := ⟨_, rfl⟩
            rw [hW1] at HT1 HRB1 ⊢
            clear hW1
          all_goals
            have HKP : Hid (∀ U, Below W1.heap.size W1 U → U.cell? ⟨b, 0, none⟩ = some (.int .i64 op) ∧ U.cell? ⟨b, 1, none⟩ = some (.int .i64 k) ∧ U.cell? ⟨b, 2, none⟩ = some (.int .i64 se) ∧ U.cell? ⟨b, 3, none⟩ = some (.int .i64 sq) ∧ U.cell? ⟨b, 4, none⟩ = some (.int .i64 a) ∧ U.cell? ⟨b, 5, none⟩ = some (.slice p1 n1 d1) ∧ U.cell? ⟨b, 6, none⟩ = some (.slice q2 m2 d2) ∧ U.cell? ⟨b, 7, none⟩ = some (.int .i64 tm) ∧ U.cell? ⟨b, 8, none⟩ = some (.int .i64 ei) ∧ U.cell? ⟨b, 9, none⟩ = some (.int .i64 et) ∧ U.cell? ⟨b, 10, none⟩ = some (.slice p3 n3 d3)) := hide fun U hU => HKR.out U ((hU.block b (Array.getElem?_eq_some_iff.1 HRB1.out).1).trans HRB1.out)
            have HB0 : Hid (Below W1.heap.size W1 (W1.drewN 1)) := hide (bdrew W1 1)
            have HA0 : Hid (Below W1.heap.size W1 ((W1.alloc (.cells #[.int .i64 0, .int .i64 0, .slice none 0 0] 55)).drewN 1)) := hide (((Below.refl _ W1).alloc (Nat.le_refl _) (.cells #[.int .i64 0, .int .i64 0, .slice none 0 0] 55)).trans (bdrew _ 1))
            go_upto_region 13 with fail
            refine wp_region_held_drew (S := (fun U => U.cell? ⟨b, 0, none⟩ = some (.int .i64 op) ∧ U.cell? ⟨b, 1, none⟩ = some (.int .i64 k) ∧ U.cell? ⟨b, 2, none⟩ = some (.int .i64 se) ∧ U.cell? ⟨b, 3, none⟩ = some (.int .i64 sq) ∧ U.cell? ⟨b, 4, none⟩ = some (.int .i64 a) ∧ U.cell? ⟨b, 5, none⟩ = some (.slice p1 n1 d1) ∧ U.cell? ⟨b, 6, none⟩ = some (.slice q2 m2 d2) ∧ U.cell? ⟨b, 7, none⟩ = some (.int .i64 tm) ∧ U.cell? ⟨b, 8, none⟩ = some (.int .i64 ei) ∧ U.cell? ⟨b, 9, none⟩ = some (.int .i64 et) ∧ U.cell? ⟨b, 10, none⟩ = some (.slice p3 n3 d3))) (by kernel_rfl) ?_ (fun hHeld => ?_)
            · (try dsimp only)
              exact HKP.out _ (bdrew W1 1)
            focus
              refine wpAnyH_take (i := 0) (oi := { dst := some 68, op := Op.load 57 (Operand.tmp 12), type := 57, pos := "law.go:233", after := #[], guard := none }) (v := ?_) rfl (by kernel_rfl) (by kernel_rfl) (by kernel_rfl) (fun _ _ _ h => h) (Or.inl ⟨by rfl, ?_⟩) (by assumption) ?_
              rotate_left
              · intro w hSw
                (try dsimp only at hSw)
                go_simp
                try with_reducible rfl
              try simp only [Act.put, List.setIfInBounds_toArray, List.set_cons_zero, List.set_cons_succ]
              refine wpAnyH_take (i := 1) (oi := { dst := some 69, op := Op.move (Operand.tmp 5), type := 47, pos := "law.go:233", after := #[], guard := none }) (v := ?_) rfl (by kernel_rfl) (by kernel_rfl) (by kernel_rfl) (fun _ _ _ h => h) (Or.inl ⟨by rfl, ?_⟩) (by assumption) ?_
              rotate_left
              · intro w hSw
                (try dsimp only at hSw)
                go_simp
                try with_reducible rfl
              try simp only [Act.put, List.setIfInBounds_toArray, List.set_cons_zero, List.set_cons_succ]
              refine wpAnyH_take (i := 3) (oi := { dst := some 71, op := Op.move (Operand.tmp 5), type := 47, pos := "law.go:233", after := #[], guard := none }) (v := ?_) rfl (by kernel_rfl) (by kernel_rfl) (by kernel_rfl) (fun _ _ _ h => h) (Or.inl ⟨by rfl, ?_⟩) (by assumption) ?_
              rotate_left
              · intro w hSw
                (try dsimp only at hSw)
                go_simp
                try with_reducible rfl
              try simp only [Act.put, List.setIfInBounds_toArray, List.set_cons_zero, List.set_cons_succ]
              refine wpAnyH_ready (rs := [2, 6]) (by kernel_rfl) (by simp) ?_
              refine AllReadyH.cons (o := { dst := some 70, op := Op.call { callee := Callee.value (Operand.func 40), args := #[Operand.tmp 69], argTypes := #[47] }, type := 3, pos := "law.go:233", after := _, guard := none }) rfl (fun K hK => ?_) (AllReadyH.cons (o := { dst := some 13, op := Op.alloc 55, type := 0, pos := "law.go:233", after := #[], guard := none }) rfl (fun K hK => ?_) AllReadyH.nil)
              focus
                go_simp
                go_at_call 40
                refine (mindex_any (HT1.out.below HB0.out).a).mono ?_
                rintro e3 W3 ⟨rfl, rfl⟩
                first
                  | refine hK.out _ _ ?_ (fun hHeld => ?_)
                  | (go_wp2_with fail; refine hK.out _ _ ?_ (fun hHeld => ?_))
                · (try dsimp only)
                  exact HKP.out _ HB0.out
                clear hK K
                try simp only [Act.put, List.setIfInBounds_toArray, List.set_cons_zero, List.set_cons_succ]
                focus
                  refine wpAnyH_ready (rs := [4, 6]) (by kernel_rfl) (by simp) ?_
                  refine AllReadyH.cons (o := { dst := some 72, op := Op.call { callee := Callee.value (Operand.func 41), args := #[Operand.tmp 71], argTypes := #[47] }, type := 3, pos := "law.go:233", after := _, guard := none }) rfl (fun K hK => ?_) (AllReadyH.cons (o := { dst := some 13, op := Op.alloc 55, type := 0, pos := "law.go:233", after := #[], guard := none }) rfl (fun K hK => ?_) AllReadyH.nil)
                  focus
                    go_simp
                    go_at_call 41
                    refine (mterm_any (HT1.out.below HB0.out).a).mono ?_
                    rintro e5 W5 ⟨rfl, rfl⟩
                    first
                      | refine hK.out _ _ ?_ (fun hHeld => ?_)
                      | (go_wp2_with fail; refine hK.out _ _ ?_ (fun hHeld => ?_))
                    · (try dsimp only)
                      exact HKP.out _ HB0.out
                    clear hK K
                    try simp only [Act.put, List.setIfInBounds_toArray, List.set_cons_zero, List.set_cons_succ]
                    focus
                      refine wpAnyH_ready (rs := [5, 6]) (by kernel_rfl) (by simp) ?_
                      refine AllReadyH.cons (o := { dst := some 73, op := Op.call { callee := Callee.value (Operand.func 31), args := #[Operand.tmp 68, Operand.tmp 70, Operand.tmp 72], argTypes := #[57, 3, 3] }, type := 55, pos := "law.go:233", after := _, guard := none }) rfl (fun K hK => ?_) (AllReadyH.cons (o := { dst := some 13, op := Op.alloc 55, type := 0, pos := "law.go:233", after := #[], guard := none }) rfl (fun K hK => ?_) AllReadyH.nil)
                      focus
                        go_simp
                        go_at_call 31
                        refine (mentry2_any (d := ⟨op, k, se, sq, a, p1, n1, d1, q2, m2, d2, tm, ei, et, p3, n3, d3, sp, vo, by_⟩) (HDI.out _ (bthen HT1.out.bel HB0.out)).1 HNM.out HIX.out HTM.out).mono ?_
                        rintro e6 W6 ⟨pe, ne, ce, rfl, hby6, h6, hdj6⟩
                        first
                          | refine hK.out _ _ ?_ (fun hHeld => ?_)
                          | (go_wp2_with fail; refine hK.out _ _ ?_ (fun hHeld => ?_))
                        · (try dsimp only)
                          exact HKP.out _ (bthen HB0.out h6)
                        clear hK K
                        try simp only [Act.put, List.setIfInBounds_toArray, List.set_cons_zero, List.set_cons_succ]
                        refine wpAnyH_ready (rs := [6]) (by kernel_rfl) (by simp) ?_
                        refine AllReadyH.cons (o := { dst := some 13, op := Op.alloc 55, type := 0, pos := "law.go:233", after := #[], guard := none }) rfl (fun K hK => ?_) AllReadyH.nil
                        go_simp
                        first
                          | refine hK.out _ _ ?_ (fun hHeld => ?_)
                          | (go_wp2_with fail; refine hK.out _ _ ?_ (fun hHeld => ?_))
                        · (try dsimp only)
                          exact HKP.out _ ((bthen HB0.out h6).alloc (bthen HB0.out h6).size _)
                        clear hK K
                        try simp only [Act.put, List.setIfInBounds_toArray, List.set_cons_zero, List.set_cons_succ]
                        refine wpAnyH_ready (rs := [7]) (by kernel_rfl) (by simp) ?_
                        refine AllReadyH.cons (o := { dst := none, op := Op.store 55 (Operand.tmp 13) (Operand.tmp 73), type := 0, pos := "law.go:233", after := _, guard := none }) rfl (fun K hK => ?_) AllReadyH.nil
                        go_simp
                        first
                          | refine hK.out _ _ ?_ (fun hHeld => ?_)
                          | (go_wp2_with fail; refine hK.out _ _ ?_ (fun hHeld => ?_))
                        · (try dsimp only)
                          exact HKP.out _ ((bthen HB0.out h6).alloc (bthen HB0.out h6).size _)
                        clear hK K
                        try simp only [Act.put, List.setIfInBounds_toArray, List.set_cons_zero, List.set_cons_succ]
                        refine wpAnyH_done (by kernel_rfl) ?_ _
                        have hst : RowE (W6.alloc (.cells #[.int .i64 (Dm.eI ⟨op, k, se, sq, a, p1, n1, d1, q2, m2, d2, tm, ei, et, p3, n3, d3, sp, vo, by_⟩ m.ix), .int .i64 (Dm.eT ⟨op, k, se, sq, a, p1, n1, d1, q2, m2, d2, tm, ei, et, p3, n3, d3, sp, vo, by_⟩ m.tm), .slice pe ne ce] 55)) W6.heap.size (Dm.eI ⟨op, k, se, sq, a, p1, n1, d1, q2, m2, d2, tm, ei, et, p3, n3, d3, sp, vo, by_⟩ m.ix) (Dm.eT ⟨op, k, se, sq, a, p1, n1, d1, q2, m2, d2, tm, ei, et, p3, n3, d3, sp, vo, by_⟩ m.tm) (.slice pe ne ce) := heap_alloc_new _ _
                        have hb6Z : Below W6.heap.size W6 (W6.alloc (.cells #[.int .i64 (Dm.eI ⟨op, k, se, sq, a, p1, n1, d1, q2, m2, d2, tm, ei, et, p3, n3, d3, sp, vo, by_⟩ m.ix), .int .i64 (Dm.eT ⟨op, k, se, sq, a, p1, n1, d1, q2, m2, d2, tm, ei, et, p3, n3, d3, sp, vo, by_⟩ m.tm), .slice pe ne ce] 55)) := (Below.refl _ _).alloc (Nat.le_refl _) _
                        have hbZ : Below W1.heap.size W1 (W6.alloc (.cells #[.int .i64 (Dm.eI ⟨op, k, se, sq, a, p1, n1, d1, q2, m2, d2, tm, ei, et, p3, n3, d3, sp, vo, by_⟩ m.ix), .int .i64 (Dm.eT ⟨op, k, se, sq, a, p1, n1, d1, q2, m2, d2, tm, ei, et, p3, n3, d3, sp, vo, by_⟩ m.tm), .slice pe ne ce] 55)) := bthen (bthen HB0.out h6) hb6Z
                        generalize W6.alloc (.cells #[.int .i64 (Dm.eI ⟨op, k, se, sq, a, p1, n1, d1, q2, m2, d2, tm, ei, et, p3, n3, d3, sp, vo, by_⟩ m.ix), .int .i64 (Dm.eT ⟨op, k, se, sq, a, p1, n1, d1, q2, m2, d2, tm, ei, et, p3, n3, d3, sp, vo, by_⟩ m.tm), .slice pe ne ce] 55) = Z at hst hb6Z hbZ ⊢
                        obtain ⟨x, hx⟩ : ∃ b, W6.heap.size = b := ⟨_, rfl⟩
                        have HXL : Hid (W1.heap.size ≤ x) := hide (by have := (show Below W1.heap.size W1 _ from (bthen HB0.out h6)).size; omega)
                        have HBYU : Hid (∀ U A, Chg Z U A → (∀ k, A k → k < W1.heap.size) → Below w.heap.size w U → By U (.slice pe ne ce) (Dm.eL ⟨op, k, se, sq, a, p1, n1, d1, q2, m2, d2, tm, ei, et, p3, n3, d3, sp, vo, by_⟩)) := hide fun U A hU hA hwU => by
                          rcases hdj6 with ⟨⟨e1, e2, e3⟩, e4⟩ | hf
                          · rw [e4, e1, e2, e3]; exact (HDI.out U hwU).1.by_
                          · exact hf A U ((Chg.of_below hb6Z A).trans hU (fun k e => .inl e)) (fun k e => Nat.lt_of_lt_of_le (hA k e) (show Below W1.heap.size W1 _ from HB0.out).size)
                        rw [hx] at hst ⊢
                      rotate_left 1
                      focus
                        go_simp
                        first
                          | refine hK.out _ _ ?_ (fun hHeld => ?_)
                          | (go_wp2_with fail; refine hK.out _ _ ?_ (fun hHeld => ?_))
                        · (try dsimp only)
                          exact HKP.out _ HA0.out
                        clear hK K
                        try simp only [Act.put, List.setIfInBounds_toArray, List.set_cons_zero, List.set_cons_succ]
                        refine wpAnyH_ready (rs := [5]) (by kernel_rfl) (by simp) ?_
                        refine AllReadyH.cons (o := { dst := some 73, op := Op.call { callee := Callee.value (Operand.func 31), args := #[Operand.tmp 68, Operand.tmp 70, Operand.tmp 72], argTypes := #[57, 3, 3] }, type := 55, pos := "law.go:233", after := _, guard := none }) rfl (fun K hK => ?_) AllReadyH.nil
                        go_simp
                        go_at_call 31
                        refine (mentry2_any (d := ⟨op, k, se, sq, a, p1, n1, d1, q2, m2, d2, tm, ei, et, p3, n3, d3, sp, vo, by_⟩) (HDI.out _ (bthen HT1.out.bel HA0.out)).1 HNM.out HIX.out HTM.out).mono ?_
                        rintro e6 W6 ⟨pe, ne, ce, rfl, hby6, h6, hdj6⟩
                        have hr6 := (show RowE ((W1.alloc (.cells #[.int .i64 0, .int .i64 0, .slice none 0 0] 55)).drewN 1) W1.heap.size 0 0 (.slice none 0 0) from heap_alloc_new W1 (.cells #[.int .i64 0, .int .i64 0, .slice none 0 0] 55)).below h6
                        obtain ⟨j0, j1, j2⟩ := hr6.z
                        obtain ⟨f0, f1, f2⟩ := hr6.f
                        first
                          | refine hK.out _ _ ?_ (fun hHeld => ?_)
                          | (go_wp2_with fail; refine hK.out _ _ ?_ (fun hHeld => ?_))
                        · (try dsimp only)
                          exact HKP.out _ (bthen HA0.out h6)
                        clear hK K
                        try simp only [Act.put, List.setIfInBounds_toArray, List.set_cons_zero, List.set_cons_succ]
                        refine wpAnyH_ready (rs := [7]) (by kernel_rfl) (by simp) ?_
                        refine AllReadyH.cons (o := { dst := none, op := Op.store 55 (Operand.tmp 13) (Operand.tmp 73), type := 0, pos := "law.go:233", after := _, guard := none }) rfl (fun K hK => ?_) AllReadyH.nil
                        go_simp
                        first
                          | refine hK.out _ _ ?_ (fun hHeld => ?_)
                          | (go_wp2_with fail; refine hK.out _ _ ?_ (fun hHeld => ?_))
                        · (try dsimp only)
                          have hcs := chgS (chgS (chg_set W6 W1.heap.size 0 (.int .i64 (Dm.eI ⟨op, k, se, sq, a, p1, n1, d1, q2, m2, d2, tm, ei, et, p3, n3, d3, sp, vo, by_⟩ m.ix))) (chg_set (W6.setCell ⟨W1.heap.size, 0, none⟩ (.int .i64 (Dm.eI ⟨op, k, se, sq, a, p1, n1, d1, q2, m2, d2, tm, ei, et, p3, n3, d3, sp, vo, by_⟩ m.ix))) W1.heap.size 1 (.int .i64 (Dm.eT ⟨op, k, se, sq, a, p1, n1, d1, q2, m2, d2, tm, ei, et, p3, n3, d3, sp, vo, by_⟩ m.tm)))) (chg_set ((W6.setCell ⟨W1.heap.size, 0, none⟩ (.int .i64 (Dm.eI ⟨op, k, se, sq, a, p1, n1, d1, q2, m2, d2, tm, ei, et, p3, n3, d3, sp, vo, by_⟩ m.ix))).setCell ⟨W1.heap.size, 1, none⟩ (.int .i64 (Dm.eT ⟨op, k, se, sq, a, p1, n1, d1, q2, m2, d2, tm, ei, et, p3, n3, d3, sp, vo, by_⟩ m.tm))) W1.heap.size 2 (.slice pe ne ce))
                          exact HKP.out _ (Chg.to_below (bthen HA0.out h6) hcs (fun k e => by rw [e]; exact Nat.le_refl _))
                        clear hK K
                        try simp only [Act.put, List.setIfInBounds_toArray, List.set_cons_zero, List.set_cons_succ]
                        refine wpAnyH_done (by kernel_rfl) ?_ _
                        have hst := hr6.set (Dm.eI ⟨op, k, se, sq, a, p1, n1, d1, q2, m2, d2, tm, ei, et, p3, n3, d3, sp, vo, by_⟩ m.ix) (Dm.eT ⟨op, k, se, sq, a, p1, n1, d1, q2, m2, d2, tm, ei, et, p3, n3, d3, sp, vo, by_⟩ m.tm) (.slice pe ne ce)
                        have hcs := chgS (chgS (chg_set W6 W1.heap.size 0 (.int .i64 (Dm.eI ⟨op, k, se, sq, a, p1, n1, d1, q2, m2, d2, tm, ei, et, p3, n3, d3, sp, vo, by_⟩ m.ix))) (chg_set (W6.setCell ⟨W1.heap.size, 0, none⟩ (.int .i64 (Dm.eI ⟨op, k, se, sq, a, p1, n1, d1, q2, m2, d2, tm, ei, et, p3, n3, d3, sp, vo, by_⟩ m.ix))) W1.heap.size 1 (.int .i64 (Dm.eT ⟨op, k, se, sq, a, p1, n1, d1, q2, m2, d2, tm, ei, et, p3, n3, d3, sp, vo, by_⟩ m.tm)))) (chg_set ((W6.setCell ⟨W1.heap.size, 0, none⟩ (.int .i64 (Dm.eI ⟨op, k, se, sq, a, p1, n1, d1, q2, m2, d2, tm, ei, et, p3, n3, d3, sp, vo, by_⟩ m.ix))).setCell ⟨W1.heap.size, 1, none⟩ (.int .i64 (Dm.eT ⟨op, k, se, sq, a, p1, n1, d1, q2, m2, d2, tm, ei, et, p3, n3, d3, sp, vo, by_⟩ m.tm))) W1.heap.size 2 (.slice pe ne ce))
                        have hbZ : Below W1.heap.size W1 (((W6.setCell ⟨W1.heap.size, 0, none⟩ (.int .i64 (Dm.eI ⟨op, k, se, sq, a, p1, n1, d1, q2, m2, d2, tm, ei, et, p3, n3, d3, sp, vo, by_⟩ m.ix))).setCell ⟨W1.heap.size, 1, none⟩ (.int .i64 (Dm.eT ⟨op, k, se, sq, a, p1, n1, d1, q2, m2, d2, tm, ei, et, p3, n3, d3, sp, vo, by_⟩ m.tm))).setCell ⟨W1.heap.size, 2, none⟩ (.slice pe ne ce)) := Chg.to_below (bthen HA0.out h6) hcs (fun k e => by rw [e]; exact Nat.le_refl _)
                        have hsz : ((W1.alloc (.cells #[.int .i64 0, .int .i64 0, .slice none 0 0] 55)).drewN 1).heap.size = W1.heap.size + 1 := by
                          show (W1.alloc (.cells #[.int .i64 0, .int .i64 0, .slice none 0 0] 55)).heap.size = _
                          simp
                        generalize (((W6.setCell ⟨W1.heap.size, 0, none⟩ (.int .i64 (Dm.eI ⟨op, k, se, sq, a, p1, n1, d1, q2, m2, d2, tm, ei, et, p3, n3, d3, sp, vo, by_⟩ m.ix))).setCell ⟨W1.heap.size, 1, none⟩ (.int .i64 (Dm.eT ⟨op, k, se, sq, a, p1, n1, d1, q2, m2, d2, tm, ei, et, p3, n3, d3, sp, vo, by_⟩ m.tm))).setCell ⟨W1.heap.size, 2, none⟩ (.slice pe ne ce)) = Z at hst hcs hbZ ⊢
                        have HBYU : Hid (∀ U A, Chg Z U A → (∀ k, A k → k < W1.heap.size) → Below w.heap.size w U → By U (.slice pe ne ce) (Dm.eL ⟨op, k, se, sq, a, p1, n1, d1, q2, m2, d2, tm, ei, et, p3, n3, d3, sp, vo, by_⟩)) := hide fun U A hU hA hwU => by
                          rcases hdj6 with ⟨⟨e1, e2, e3⟩, e4⟩ | hf
                          · rw [e4, e1, e2, e3]; exact (HDI.out U hwU).1.by_
                          · refine hf (fun k => k = W1.heap.size ∨ A k) U ((hcs.mono (fun k e => .inl e)).trans hU (fun k e => .inl (.inr e))) (fun k e => ?_)
                            rcases e with e | e
                            · omega
                            · have := hA k e; omega
                        obtain ⟨x, hx⟩ : ∃ b, W1.heap.size = b := ⟨_, rfl⟩
                        have HXL : Hid (W1.heap.size ≤ x) := hide (Nat.le_of_eq hx)
                        have hb6Z : True := trivial
                        clear hr6 j0 j1 j2 f0 f1 f2 hcs hsz
                        rw [hx] at hst ⊢
                  rotate_left 2
                  focus
                    go_simp
                    first
                      | refine hK.out _ _ ?_ (fun hHeld => ?_)
                      | (go_wp2_with fail; refine hK.out _ _ ?_ (fun hHeld => ?_))
                    · (try dsimp only)
                      exact HKP.out _ HA0.out
                    clear hK K
                    try simp only [Act.put, List.setIfInBounds_toArray, List.set_cons_zero, List.set_cons_succ]
                    refine wpAnyH_ready (rs := [4]) (by kernel_rfl) (by simp) ?_
                    refine AllReadyH.cons (o := { dst := some 72, op := Op.call { callee := Callee.value (Operand.func 41), args := #[Operand.tmp 71], argTypes := #[47] }, type := 3, pos := "law.go:233", after := _, guard := none }) rfl (fun K hK => ?_) AllReadyH.nil
                    go_simp
                    go_at_call 41
                    refine (mterm_any (HT1.out.below HA0.out).a).mono ?_
                    rintro e5 W5 ⟨rfl, rfl⟩
                    first
                      | refine hK.out _ _ ?_ (fun hHeld => ?_)
                      | (go_wp2_with fail; refine hK.out _ _ ?_ (fun hHeld => ?_))
                    · (try dsimp only)
                      exact HKP.out _ HA0.out
                    clear hK K
                    try simp only [Act.put, List.setIfInBounds_toArray, List.set_cons_zero, List.set_cons_succ]
                    refine wpAnyH_ready (rs := [5]) (by kernel_rfl) (by simp) ?_
                    refine AllReadyH.cons (o := { dst := some 73, op := Op.call { callee := Callee.value (Operand.func 31), args := #[Operand.tmp 68, Operand.tmp 70, Operand.tmp 72], argTypes := #[57, 3, 3] }, type := 55, pos := "law.go:233", after := _, guard := none }) rfl (fun K hK => ?_) AllReadyH.nil
                    go_simp
                    go_at_call 31
                    refine (mentry2_any (d := ⟨op, k, se, sq, a, p1, n1, d1, q2, m2, d2, tm, ei, et, p3, n3, d3, sp, vo, by_⟩) (HDI.out _ (bthen HT1.out.bel HA0.out)).1 HNM.out HIX.out HTM.out).mono ?_
                    rintro e6 W6 ⟨pe, ne, ce, rfl, hby6, h6, hdj6⟩
                    have hr6 := (show RowE ((W1.alloc (.cells #[.int .i64 0, .int .i64 0, .slice none 0 0] 55)).drewN 1) W1.heap.size 0 0 (.slice none 0 0) from heap_alloc_new W1 (.cells #[.int .i64 0, .int .i64 0, .slice none 0 0] 55)).below h6
                    obtain ⟨j0, j1, j2⟩ := hr6.z
                    obtain ⟨f0, f1, f2⟩ := hr6.f
                    first
                      | refine hK.out _ _ ?_ (fun hHeld => ?_)
                      | (go_wp2_with fail; refine hK.out _ _ ?_ (fun hHeld => ?_))
                    · (try dsimp only)
                      exact HKP.out _ (bthen HA0.out h6)
                    clear hK K
                    try simp only [Act.put, List.setIfInBounds_toArray, List.set_cons_zero, List.set_cons_succ]
                    refine wpAnyH_ready (rs := [7]) (by kernel_rfl) (by simp) ?_
                    refine AllReadyH.cons (o := { dst := none, op := Op.store 55 (Operand.tmp 13) (Operand.tmp 73), type := 0, pos := "law.go:233", after := _, guard := none }) rfl (fun K hK => ?_) AllReadyH.nil
                    go_simp
                    first
                      | refine hK.out _ _ ?_ (fun hHeld => ?_)
                      | (go_wp2_with fail; refine hK.out _ _ ?_ (fun hHeld => ?_))
                    · (try dsimp only)
                      have hcs := chgS (chgS (chg_set W6 W1.heap.size 0 (.int .i64 (Dm.eI ⟨op, k, se, sq, a, p1, n1, d1, q2, m2, d2, tm, ei, et, p3, n3, d3, sp, vo, by_⟩ m.ix))) (chg_set (W6.setCell ⟨W1.heap.size, 0, none⟩ (.int .i64 (Dm.eI ⟨op, k, se, sq, a, p1, n1, d1, q2, m2, d2, tm, ei, et, p3, n3, d3, sp, vo, by_⟩ m.ix))) W1.heap.size 1 (.int .i64 (Dm.eT ⟨op, k, se, sq, a, p1, n1, d1, q2, m2, d2, tm, ei, et, p3, n3, d3, sp, vo, by_⟩ m.tm)))) (chg_set ((W6.setCell ⟨W1.heap.size, 0, none⟩ (.int .i64 (Dm.eI ⟨op, k, se, sq, a, p1, n1, d1, q2, m2, d2, tm, ei, et, p3, n3, d3, sp, vo, by_⟩ m.ix))).setCell ⟨W1.heap.size, 1, none⟩ (.int .i64 (Dm.eT ⟨op, k, se, sq, a, p1, n1, d1, q2, m2, d2, tm, ei, et, p3, n3, d3, sp, vo, by_⟩ m.tm))) W1.heap.size 2 (.slice pe ne ce))
                      exact HKP.out _ (Chg.to_below (bthen HA0.out h6) hcs (fun k e => by rw [e]; exact Nat.le_refl _))
                    clear hK K
                    try simp only [Act.put, List.setIfInBounds_toArray, List.set_cons_zero, List.set_cons_succ]
                    refine wpAnyH_done (by kernel_rfl) ?_ _
                    have hst := hr6.set (Dm.eI ⟨op, k, se, sq, a, p1, n1, d1, q2, m2, d2, tm, ei, et, p3, n3, d3, sp, vo, by_⟩ m.ix) (Dm.eT ⟨op, k, se, sq, a, p1, n1, d1, q2, m2, d2, tm, ei, et, p3, n3, d3, sp, vo, by_⟩ m.tm) (.slice pe ne ce)
                    have hcs := chgS (chgS (chg_set W6 W1.heap.size 0 (.int .i64 (Dm.eI ⟨op, k, se, sq, a, p1, n1, d1, q2, m2, d2, tm, ei, et, p3, n3, d3, sp, vo, by_⟩ m.ix))) (chg_set (W6.setCell ⟨W1.heap.size, 0, none⟩ (.int .i64 (Dm.eI ⟨op, k, se, sq, a, p1, n1, d1, q2, m2, d2, tm, ei, et, p3, n3, d3, sp, vo, by_⟩ m.ix))) W1.heap.size 1 (.int .i64 (Dm.eT ⟨op, k, se, sq, a, p1, n1, d1, q2, m2, d2, tm, ei, et, p3, n3, d3, sp, vo, by_⟩ m.tm)))) (chg_set ((W6.setCell ⟨W1.heap.size, 0, none⟩ (.int .i64 (Dm.eI ⟨op, k, se, sq, a, p1, n1, d1, q2, m2, d2, tm, ei, et, p3, n3, d3, sp, vo, by_⟩ m.ix))).setCell ⟨W1.heap.size, 1, none⟩ (.int .i64 (Dm.eT ⟨op, k, se, sq, a, p1, n1, d1, q2, m2, d2, tm, ei, et, p3, n3, d3, sp, vo, by_⟩ m.tm))) W1.heap.size 2 (.slice pe ne ce))
                    have hbZ : Below W1.heap.size W1 (((W6.setCell ⟨W1.heap.size, 0, none⟩ (.int .i64 (Dm.eI ⟨op, k, se, sq, a, p1, n1, d1, q2, m2, d2, tm, ei, et, p3, n3, d3, sp, vo, by_⟩ m.ix))).setCell ⟨W1.heap.size, 1, none⟩ (.int .i64 (Dm.eT ⟨op, k, se, sq, a, p1, n1, d1, q2, m2, d2, tm, ei, et, p3, n3, d3, sp, vo, by_⟩ m.tm))).setCell ⟨W1.heap.size, 2, none⟩ (.slice pe ne ce)) := Chg.to_below (bthen HA0.out h6) hcs (fun k e => by rw [e]; exact Nat.le_refl _)
                    have hsz : ((W1.alloc (.cells #[.int .i64 0, .int .i64 0, .slice none 0 0] 55)).drewN 1).heap.size = W1.heap.size + 1 := by
                      show (W1.alloc (.cells #[.int .i64 0, .int .i64 0, .slice none 0 0] 55)).heap.size = _
                      simp
                    generalize (((W6.setCell ⟨W1.heap.size, 0, none⟩ (.int .i64 (Dm.eI ⟨op, k, se, sq, a, p1, n1, d1, q2, m2, d2, tm, ei, et, p3, n3, d3, sp, vo, by_⟩ m.ix))).setCell ⟨W1.heap.size, 1, none⟩ (.int .i64 (Dm.eT ⟨op, k, se, sq, a, p1, n1, d1, q2, m2, d2, tm, ei, et, p3, n3, d3, sp, vo, by_⟩ m.tm))).setCell ⟨W1.heap.size, 2, none⟩ (.slice pe ne ce)) = Z at hst hcs hbZ ⊢
                    have HBYU : Hid (∀ U A, Chg Z U A → (∀ k, A k → k < W1.heap.size) → Below w.heap.size w U → By U (.slice pe ne ce) (Dm.eL ⟨op, k, se, sq, a, p1, n1, d1, q2, m2, d2, tm, ei, et, p3, n3, d3, sp, vo, by_⟩)) := hide fun U A hU hA hwU => by
                      rcases hdj6 with ⟨⟨e1, e2, e3⟩, e4⟩ | hf
                      · rw [e4, e1, e2, e3]; exact (HDI.out U hwU).1.by_
                      · refine hf (fun k => k = W1.heap.size ∨ A k) U ((hcs.mono (fun k e => .inl e)).trans hU (fun k e => .inl (.inr e))) (fun k e => ?_)
                        rcases e with e | e
                        · omega
                        · have := hA k e; omega
                    obtain ⟨x, hx⟩ : ∃ b, W1.heap.size = b := ⟨_, rfl⟩
                    have HXL : Hid (W1.heap.size ≤ x) := hide (Nat.le_of_eq hx)
                    have hb6Z : True := trivial
                    clear hr6 j0 j1 j2 f0 f1 f2 hcs hsz
                    rw [hx] at hst ⊢
              rotate_left 3
              focus
                go_simp
                first
                  | refine hK.out _ _ ?_ (fun hHeld => ?_)
                  | (go_wp2_with fail; refine hK.out _ _ ?_ (fun hHeld => ?_))
                · (try dsimp only)
                  exact HKP.out _ HA0.out
                clear hK K
                try simp only [Act.put, List.setIfInBounds_toArray, List.set_cons_zero, List.set_cons_succ]
                refine wpAnyH_ready (rs := [2]) (by kernel_rfl) (by simp) ?_
                refine AllReadyH.cons (o := { dst := some 70, op := Op.call { callee := Callee.value (Operand.func 40), args := #[Operand.tmp 69], argTypes := #[47] }, type := 3, pos := "law.go:233", after := _, guard := none }) rfl (fun K hK => ?_) AllReadyH.nil
                go_simp
                go_at_call 40
                refine (mindex_any (HT1.out.below HA0.out).a).mono ?_
                rintro e3 W3 ⟨rfl, rfl⟩
                first
                  | refine hK.out _ _ ?_ (fun hHeld => ?_)
                  | (go_wp2_with fail; refine hK.out _ _ ?_ (fun hHeld => ?_))
                · (try dsimp only)
                  exact HKP.out _ HA0.out
                clear hK K
                try simp only [Act.put, List.setIfInBounds_toArray, List.set_cons_zero, List.set_cons_succ]
                refine wpAnyH_ready (rs := [4]) (by kernel_rfl) (by simp) ?_
                refine AllReadyH.cons (o := { dst := some 72, op := Op.call { callee := Callee.value (Operand.func 41), args := #[Operand.tmp 71], argTypes := #[47] }, type := 3, pos := "law.go:233", after := _, guard := none }) rfl (fun K hK => ?_) AllReadyH.nil
                go_simp
                go_at_call 41
                refine (mterm_any (HT1.out.below HA0.out).a).mono ?_
                rintro e5 W5 ⟨rfl, rfl⟩
                first
                  | refine hK.out _ _ ?_ (fun hHeld => ?_)
                  | (go_wp2_with fail; refine hK.out _ _ ?_ (fun hHeld => ?_))
                · (try dsimp only)
                  exact HKP.out _ HA0.out
                clear hK K
                try simp only [Act.put, List.setIfInBounds_toArray, List.set_cons_zero, List.set_cons_succ]
                refine wpAnyH_ready (rs := [5]) (by kernel_rfl) (by simp) ?_
                refine AllReadyH.cons (o := { dst := some 73, op := Op.call { callee := Callee.value (Operand.func 31), args := #[Operand.tmp 68, Operand.tmp 70, Operand.tmp 72], argTypes := #[57, 3, 3] }, type := 55, pos := "law.go:233", after := _, guard := none }) rfl (fun K hK => ?_) AllReadyH.nil
                go_simp
                go_at_call 31
                refine (mentry2_any (d := ⟨op, k, se, sq, a, p1, n1, d1, q2, m2, d2, tm, ei, et, p3, n3, d3, sp, vo, by_⟩) (HDI.out _ (bthen HT1.out.bel HA0.out)).1 HNM.out HIX.out HTM.out).mono ?_
                rintro e6 W6 ⟨pe, ne, ce, rfl, hby6, h6, hdj6⟩
                have hr6 := (show RowE ((W1.alloc (.cells #[.int .i64 0, .int .i64 0, .slice none 0 0] 55)).drewN 1) W1.heap.size 0 0 (.slice none 0 0) from heap_alloc_new W1 (.cells #[.int .i64 0, .int .i64 0, .slice none 0 0] 55)).below h6
                obtain ⟨j0, j1, j2⟩ := hr6.z
                obtain ⟨f0, f1, f2⟩ := hr6.f
                first
                  | refine hK.out _ _ ?_ (fun hHeld => ?_)
                  | (go_wp2_with fail; refine hK.out _ _ ?_ (fun hHeld => ?_))
                · (try dsimp only)
                  exact HKP.out _ (bthen HA0.out h6)
                clear hK K
                try simp only [Act.put, List.setIfInBounds_toArray, List.set_cons_zero, List.set_cons_succ]
                refine wpAnyH_ready (rs := [7]) (by kernel_rfl) (by simp) ?_
                refine AllReadyH.cons (o := { dst := none, op := Op.store 55 (Operand.tmp 13) (Operand.tmp 73), type := 0, pos := "law.go:233", after := _, guard := none }) rfl (fun K hK => ?_) AllReadyH.nil
                go_simp
                first
                  | refine hK.out _ _ ?_ (fun hHeld => ?_)
                  | (go_wp2_with fail; refine hK.out _ _ ?_ (fun hHeld => ?_))
                · (try dsimp only)
                  have hcs := chgS (chgS (chg_set W6 W1.heap.size 0 (.int .i64 (Dm.eI ⟨op, k, se, sq, a, p1, n1, d1, q2, m2, d2, tm, ei, et, p3, n3, d3, sp, vo, by_⟩ m.ix))) (chg_set (W6.setCell ⟨W1.heap.size, 0, none⟩ (.int .i64 (Dm.eI ⟨op, k, se, sq, a, p1, n1, d1, q2, m2, d2, tm, ei, et, p3, n3, d3, sp, vo, by_⟩ m.ix))) W1.heap.size 1 (.int .i64 (Dm.eT ⟨op, k, se, sq, a, p1, n1, d1, q2, m2, d2, tm, ei, et, p3, n3, d3, sp, vo, by_⟩ m.tm)))) (chg_set ((W6.setCell ⟨W1.heap.size, 0, none⟩ (.int .i64 (Dm.eI ⟨op, k, se, sq, a, p1, n1, d1, q2, m2, d2, tm, ei, et, p3, n3, d3, sp, vo, by_⟩ m.ix))).setCell ⟨W1.heap.size, 1, none⟩ (.int .i64 (Dm.eT ⟨op, k, se, sq, a, p1, n1, d1, q2, m2, d2, tm, ei, et, p3, n3, d3, sp, vo, by_⟩ m.tm))) W1.heap.size 2 (.slice pe ne ce))
                  exact HKP.out _ (Chg.to_below (bthen HA0.out h6) hcs (fun k e => by rw [e]; exact Nat.le_refl _))
                clear hK K
                try simp only [Act.put, List.setIfInBounds_toArray, List.set_cons_zero, List.set_cons_succ]
                refine wpAnyH_done (by kernel_rfl) ?_ _
                have hst := hr6.set (Dm.eI ⟨op, k, se, sq, a, p1, n1, d1, q2, m2, d2, tm, ei, et, p3, n3, d3, sp, vo, by_⟩ m.ix) (Dm.eT ⟨op, k, se, sq, a, p1, n1, d1, q2, m2, d2, tm, ei, et, p3, n3, d3, sp, vo, by_⟩ m.tm) (.slice pe ne ce)
                have hcs := chgS (chgS (chg_set W6 W1.heap.size 0 (.int .i64 (Dm.eI ⟨op, k, se, sq, a, p1, n1, d1, q2, m2, d2, tm, ei, et, p3, n3, d3, sp, vo, by_⟩ m.ix))) (chg_set (W6.setCell ⟨W1.heap.size, 0, none⟩ (.int .i64 (Dm.eI ⟨op, k, se, sq, a, p1, n1, d1, q2, m2, d2, tm, ei, et, p3, n3, d3, sp, vo, by_⟩ m.ix))) W1.heap.size 1 (.int .i64 (Dm.eT ⟨op, k, se, sq, a, p1, n1, d1, q2, m2, d2, tm, ei, et, p3, n3, d3, sp, vo, by_⟩ m.tm)))) (chg_set ((W6.setCell ⟨W1.heap.size, 0, none⟩ (.int .i64 (Dm.eI ⟨op, k, se, sq, a, p1, n1, d1, q2, m2, d2, tm, ei, et, p3, n3, d3, sp, vo, by_⟩ m.ix))).setCell ⟨W1.heap.size, 1, none⟩ (.int .i64 (Dm.eT ⟨op, k, se, sq, a, p1, n1, d1, q2, m2, d2, tm, ei, et, p3, n3, d3, sp, vo, by_⟩ m.tm))) W1.heap.size 2 (.slice pe ne ce))
                have hbZ : Below W1.heap.size W1 (((W6.setCell ⟨W1.heap.size, 0, none⟩ (.int .i64 (Dm.eI ⟨op, k, se, sq, a, p1, n1, d1, q2, m2, d2, tm, ei, et, p3, n3, d3, sp, vo, by_⟩ m.ix))).setCell ⟨W1.heap.size, 1, none⟩ (.int .i64 (Dm.eT ⟨op, k, se, sq, a, p1, n1, d1, q2, m2, d2, tm, ei, et, p3, n3, d3, sp, vo, by_⟩ m.tm))).setCell ⟨W1.heap.size, 2, none⟩ (.slice pe ne ce)) := Chg.to_below (bthen HA0.out h6) hcs (fun k e => by rw [e]; exact Nat.le_refl _)
                have hsz : ((W1.alloc (.cells #[.int .i64 0, .int .i64 0, .slice none 0 0] 55)).drewN 1).heap.size = W1.heap.size + 1 := by
                  show (W1.alloc (.cells #[.int .i64 0, .int .i64 0, .slice none 0 0] 55)).heap.size = _
                  simp
                generalize (((W6.setCell ⟨W1.heap.size, 0, none⟩ (.int .i64 (Dm.eI ⟨op, k, se, sq, a, p1, n1, d1, q2, m2, d2, tm, ei, et, p3, n3, d3, sp, vo, by_⟩ m.ix))).setCell ⟨W1.heap.size, 1, none⟩ (.int .i64 (Dm.eT ⟨op, k, se, sq, a, p1, n1, d1, q2, m2, d2, tm, ei, et, p3, n3, d3, sp, vo, by_⟩ m.tm))).setCell ⟨W1.heap.size, 2, none⟩ (.slice pe ne ce)) = Z at hst hcs hbZ ⊢
                have HBYU : Hid (∀ U A, Chg Z U A → (∀ k, A k → k < W1.heap.size) → Below w.heap.size w U → By U (.slice pe ne ce) (Dm.eL ⟨op, k, se, sq, a, p1, n1, d1, q2, m2, d2, tm, ei, et, p3, n3, d3, sp, vo, by_⟩)) := hide fun U A hU hA hwU => by
                  rcases hdj6 with ⟨⟨e1, e2, e3⟩, e4⟩ | hf
                  · rw [e4, e1, e2, e3]; exact (HDI.out U hwU).1.by_
                  · refine hf (fun k => k = W1.heap.size ∨ A k) U ((hcs.mono (fun k e => .inl e)).trans hU (fun k e => .inl (.inr e))) (fun k e => ?_)
                    rcases e with e | e
                    · omega
                    · have := hA k e; omega
                obtain ⟨x, hx⟩ : ∃ b, W1.heap.size = b := ⟨_, rfl⟩
                have HXL : Hid (W1.heap.size ≤ x) := hide (Nat.le_of_eq hx)
                have hb6Z : True := trivial
                clear hr6 j0 j1 j2 f0 f1 f2 hcs hsz
                rw [hx] at hst ⊢
          all_goals
            have HT2 := hide (HT1.out.below hbZ)
            have HX2 := hide hst
            have HZL : Hid (W1.heap.size ≤ Z.heap.size) := hide hbZ.size
            have HBZ0 := HBYU.out Z (fun _ => False) (Chg.refl _ _) (fun k e => e.elim) HT2.out.bel
            obtain ⟨y0, y1, y2⟩ := HX2.out.z
            have HAP := hide (mapply_ts HT2.out.a (ix := Dm.eI ⟨op, k, se, sq, a, p1, n1, d1, q2, m2, d2, tm, ei, et, p3, n3, d3, sp, vo, by_⟩ m.ix) (tm := Dm.eT ⟨op, k, se, sq, a, p1, n1, d1, q2, m2, d2, tm, ei, et, p3, n3, d3, sp, vo, by_⟩ m.tm) HBZ0 HLE.out)
            obtain ⟨dr, hdr⟩ : ∃ r, (appM m (Dm.eI ⟨op, k, se, sq, a, p1, n1, d1, q2, m2, d2, tm, ei, et, p3, n3, d3, sp, vo, by_⟩ m.ix) (Dm.eT ⟨op, k, se, sq, a, p1, n1, d1, q2, m2, d2, tm, ei, et, p3, n3, d3, sp, vo, by_⟩ m.tm) (Dm.eL ⟨op, k, se, sq, a, p1, n1, d1, q2, m2, d2, tm, ei, et, p3, n3, d3, sp, vo, by_⟩)).1 = r := ⟨_, rfl⟩
            obtain ⟨de, hde⟩ : ∃ r, (appM m (Dm.eI ⟨op, k, se, sq, a, p1, n1, d1, q2, m2, d2, tm, ei, et, p3, n3, d3, sp, vo, by_⟩ m.ix) (Dm.eT ⟨op, k, se, sq, a, p1, n1, d1, q2, m2, d2, tm, ei, et, p3, n3, d3, sp, vo, by_⟩ m.tm) (Dm.eL ⟨op, k, se, sq, a, p1, n1, d1, q2, m2, d2, tm, ei, et, p3, n3, d3, sp, vo, by_⟩)).2.1 = r := ⟨_, rfl⟩
            obtain ⟨mm, hmm⟩ : ∃ r, (appM m (Dm.eI ⟨op, k, se, sq, a, p1, n1, d1, q2, m2, d2, tm, ei, et, p3, n3, d3, sp, vo, by_⟩ m.ix) (Dm.eT ⟨op, k, se, sq, a, p1, n1, d1, q2, m2, d2, tm, ei, et, p3, n3, d3, sp, vo, by_⟩ m.tm) (Dm.eL ⟨op, k, se, sq, a, p1, n1, d1, q2, m2, d2, tm, ei, et, p3, n3, d3, sp, vo, by_⟩)).2.2 = r := ⟨_, rfl⟩
            rw [hdr, hde, hmm] at HAP
            have HDR := hide (And.intro hdr (And.intro hde hmm))
            clear hst hbZ hb6Z hdj6 hby6 h6 hHeld HBZ0 hdr hde hmm hx
            go_wp2_with fail
            refine HAP.out.mono ?_
            rintro e W7 ⟨rfl, Pa7, hts⟩
            have HT7 := hide (HT2.out.step hts)
            have HX7 : Hid (RowE W7 x (Dm.eI ⟨op, k, se, sq, a, p1, n1, d1, q2, m2, d2, tm, ei, et, p3, n3, d3, sp, vo, by_⟩ m.ix) (Dm.eT ⟨op, k, se, sq, a, p1, n1, d1, q2, m2, d2, tm, ei, et, p3, n3, d3, sp, vo, by_⟩ m.tm) (.slice pe ne ce)) := hide ((hts.chg.block x HX2.out.lt (fun e => by have := HT1.out.a.is.lt x e; have := HXL.out; omega)).trans HX2.out)
            have HC7 := hide hts.chg
            clear hts y0 y1 y2 HAP
            unfold rpV
            go_upto_region 15 with fail
            obtain ⟨W8, hW8⟩ : ∃ X, W7.alloc (.cells #[.int .i64 dr.er, .int .i64 dr.rs, .int .i64 dr.gn, .int .i64 dr.ad, .int .i64 dr.sa, .int .i64 dr.ot, .int .i64 dr.cy, .int .i64 dr.fu] 66) = X := ⟨_, rfl⟩
            have hb8 : Below W7.heap.size W7 W8 := by rw [← hW8]; exact (Below.refl _ _).alloc (Nat.le_refl _) _
            have hr8 : RowR W8 W7.heap.size dr := by rw [← hW8]; exact RowR.new W7 dr
            rw [hW8]
            obtain ⟨r1, hr1⟩ : ∃ b, W7.heap.size = b := ⟨_, rfl⟩
            have HT8 := hide (HT7.out.below hb8)
            have HX8 := hide (HX7.out.below hb8)
            have HC8 := hide (HC7.out.belowed hb8)
            have HRL : Hid (W1.heap.size ≤ r1) := hide (by have := HC7.out.size; have := HZL.out; omega)
            rw [hr1] at hr8 ⊢
            have HR8 := hide hr8
            have HBZ8 := HBYU.out W8 (McS Pa) HC8.out (fun k e => HT1.out.a.is.lt k e) HT8.out.bel
            have HAP2 := hide (mapply_ts HT8.out.b (ix := Dm.eI ⟨op, k, se, sq, a, p1, n1, d1, q2, m2, d2, tm, ei, et, p3, n3, d3, sp, vo, by_⟩ m.ix) (tm := Dm.eT ⟨op, k, se, sq, a, p1, n1, d1, q2, m2, d2, tm, ei, et, p3, n3, d3, sp, vo, by_⟩ m.tm) HBZ8 HLE.out)
            rw [HDR.out.1, HDR.out.2.1, HDR.out.2.2] at HAP2
            obtain ⟨y0, y1, y2⟩ := HX8.out.z
            clear hW8 hb8 hr8 hr1 HBZ8
            go_wp2_with fail
            refine HAP2.out.mono ?_
            rintro e W9 ⟨rfl, Pb9, hts⟩
            have HT9 := hide (HT8.out.rot.step hts).rot.rot
            have HR9 : Hid (RowR W9 r1 dr) := hide ((hts.chg.block r1 (Array.getElem?_eq_some_iff.1 HR8.out).1 (fun e => by have := HT1.out.b.is.lt r1 e; have := HRL.out; omega)).trans HR8.out)
            clear hts y0 y1 y2 HAP2
            unfold rpV
            go_upto_region 16 with fail
            obtain ⟨W10, hW10⟩ : ∃ X, W9.alloc (.cells #[.int .i64 dr.er, .int .i64 dr.rs, .int .i64 dr.gn, .int .i64 dr.ad, .int .i64 dr.sa, .int .i64 dr.ot, .int .i64 dr.cy, .int .i64 dr.fu] 66) = X := ⟨_, rfl⟩
            have hb10 : Below W9.heap.size W9 W10 := by rw [← hW10]; exact (Below.refl _ _).alloc (Nat.le_refl _) _
            have hr10 : RowR W10 W9.heap.size dr := by rw [← hW10]; exact RowR.new W9 dr
            rw [hW10]
            obtain ⟨r2, hr2⟩ : ∃ b, W9.heap.size = b := ⟨_, rfl⟩
            have HT10 := hide (HT9.out.below hb10)
            obtain ⟨z0, z1, z2, z3, z4, z5, z6, z7⟩ := (HR9.out.below hb10).z
            rw [hr2] at hr10 ⊢
            obtain ⟨t0, t1, t2, t3, t4, t5, t6, t7⟩ := hr10.z
            have hnq : ∀ U, (binOp .neq 66 (.agg #[.int .i64 dr.er, .int .i64 dr.rs, .int .i64 dr.gn, .int .i64 dr.ad, .int .i64 dr.sa, .int .i64 dr.ot, .int .i64 dr.cy, .int .i64 dr.fu]) (.agg #[.int .i64 dr.er, .int .i64 dr.rs, .int .i64 dr.gn, .int .i64 dr.ad, .int .i64 dr.sa, .int .i64 dr.ot, .int .i64 dr.cy, .int .i64 dr.fu])).run Tryz.prog U = .ok (.bool false) U := fun U => by
              have h1 := rp_neqB dr dr U
              rw [decide_eq_true rfl] at h1
              exact h1
            clear hW10 hb10 hr10 hr2
            go_wp2_with fail
            go_roundw
            case rel => exact ⟨j + 1, by omega, by go_num, hide ⟨_, _, _, _, _, HT10.out⟩⟩
            case measure => simp [intOf]; omega
        · obtain ⟨Pa, Pb, Pc, m, mc, htr⟩ := HR.out
          have HT := hide htr
          have HCL := hide (mmclone_any htr.a)
          clear htr HR
          go_wp2_with fail
          refine HCL.out.mono ?_
          rintro e V1 ⟨gd, Pd, rfl, hmd, hnd, hgd, hbd⟩
          have HTC := hide (HT.out.below hbd)
          have HMD := hide (And.intro hmd (And.intro hnd hgd))
          have HPL := hide (mplay_any HTC.out.c (fun U hU => HD.out.below (Chg.to_below HTC.out.bel hU (fun k e => HTC.out.lc k (.inr e)))) (HQ.out trivial).2 HBK.out.1)
          clear hmd hnd hgd hbd HCL
          go_wp2_with fail
          refine HPL.out.mono ?_
          rintro e V2 ⟨rfl, Pc2, hts⟩
          have HT2 := hide (HTC.out.rot.rot.step hts).rot
          have HME : Hid (MkIs V2 gd Pd m) := hide (HMD.out.1.chgS hts.chg (fun k hk e => by have h1 := HMD.out.2.1 k hk; have h2 := HT.out.c.is.lt k e; omega) (fun e => HT.out.c.is.nz 0 e rfl) (fun e => by have h1 := HMD.out.2.2; have h2 := HT.out.c.is.lt gd e; omega))
          clear hts HPL HMD HTC
          go_wp2_with fail
          refine (mimage_is HT2.out.a).mono ?_
          rintro e v1 ⟨q1, r1, s1, rfl, o1, b1⟩
          have HV1 := hide b1
          have HO1 := hide o1.by_
          clear o1 b1
          go_wp2_with fail
          refine (mimage_is (HT2.out.below HV1.out).b).mono ?_
          rintro e v2 ⟨q2, r2, s2, rfl, o2, b2⟩
          have HE1 := hide (equalS_any (HO1.out.below b2) o2.by_)
          have HV2 := hide (bthen HV1.out b2)
          clear o2 b2
          go_wp2_with fail
          refine HE1.out.mono ?_
          rintro e v ⟨rfl, rfl⟩
          go_wp2_with fail
          refine (mimage_is (HT2.out.below HV2.out).a).mono ?_
          rintro e v3 ⟨q3, r3, s3, rfl, o3, b3⟩
          have HV3 := hide (bthen HV2.out b3)
          have HO3 := hide o3.by_
          clear o3 b3
          go_wp2_with fail
          refine (mimage_is (HME.out.below HV3.out)).mono ?_
          rintro e v4 ⟨q4, r4, s4, rfl, o4, b4⟩
          have HE2 := hide (equalS_any (HO3.out.below b4) o4.by_)
          have HV4 := hide (bthen HV3.out b4)
          clear o4 b4
          go_wp2_with fail
          refine HE2.out.mono ?_
          rintro e v ⟨rfl, rfl⟩
          have HB9 := hide (HT2.out.below HV4.out).bel
          go_wp2_with fail
          refine (mawake_any (HE.out.below HB9.out)).mono ?_
          rintro e wz ⟨rfl, hbz⟩
          go_wp2_with fail
          go_ret
          exact ⟨rfl, bthen HB9.out hbz⟩
end Go.Proofs.YtionbmlicmibgaaGreatDoor
namespace Go.Proofs.YtionbmlicmibgaaGreatDoor.machineSame
open Go.ChangeShapes Go.WideShapes Go.ChangeAt Go.RowKit
open Go.ChangeMaps (open_string shut_string)
set_option linter.unusedVariables false

theorem laidOut : laidOutB Tryz.prog = true := by kernel_rfl

set_option maxRecDepth 100000 in
theorem reads (os : Os) {H : Type} (enc : TypeId × Value → H) : ∃ places, DataW.whole enc Tryz.prog ((laidWorld os).forCall (fun _ _ => 0) ⟨#[], #[.slice none 0 0, .slice none 0 0], []⟩).memory Tryz.f9.params.toList Rows.machineSameSpec.vars false (#[.slice none 0 0, .slice none 0 0] : Array Value).toList 8 = some ([.nil, .nil], [], places) :=
  ⟨[], by kernel_rfl⟩
set_option maxRecDepth 100000 in
theorem lifted (os : Os) (started : os.Started) (H : Type) (enc : TypeId × Value → H) (F : Stop.Interp) :
    ReturnsInHanded {} Tryz.checked os 9 .any ((Rows.OpenSpec.upto Rows.machineSameSpec).preRow enc Tryz.prog Tryz.f9 Rows.machineSameUptoRow.domain false Rows.machineSameUptoRow.laid) (((Rows.OpenSpec.upto Rows.machineSameSpec).at F).post enc Tryz.prog Tryz.f9 false true false false) := by
  obtain ⟨places, hx⟩ := reads os enc
  refine returnsInHanded_of_row (C := Tryz.checked) (s := Rows.OpenSpec.upto Rows.machineSameSpec) Tryz.own started (by kernel_rfl) Tryz.func9
    (witness_row_at (enc := enc) (C := Tryz.checked) false (laidWorld os) #[.slice none 0 0, .slice none 0 0] rfl (by kernel_rfl) (by kernel_rfl) (by kernel_rfl)
      (OpenSpec.preRow_of_cond 8 hx (by kernel_rfl) (fun k hk => by cases hk; kernel_rfl) (by kernel_rfl) (laidWorld_met os _))) ?_
  intro W base args ds gs before hval0 hW _ hcond hsz0 hL _ _
  have hk := hcond _ rfl
  have hErr := errT_of_laid hL
  have hval : ∀ (j : Nat) t v, Tryz.f9.params[j]? = some t → args[j]? = some v → Value.okWide Tryz.prog W .any base t v := hval0
  have hW' := hW
  obtain ⟨p, q, hA0, hV, rfl, hfz, hnd⟩ := hW
  have hA : DataW.TrodAll enc Tryz.prog W 0 (fun _ => true) true Tryz.f9.params.toList args.toList ds p := hA0
  rw [Tryz.params9] at hA hval
  obtain ⟨v0, vs0, d0, ds0, p0, q0, hargs, rfl, rfl, h0, r0⟩ := trodAll_cons hA
  obtain ⟨v1, vs1, d1, ds1, p1, q1, rfl, rfl, rfl, h1, r1⟩ := trodAll_cons r0
  obtain ⟨rfl, rfl, rfl⟩ := trodAll_nil r1
  obtain rfl : args = #[v0, v1] := by cases args; simp_all
  obtain ⟨rfl, rfl⟩ := trodVars_none hV
  obtain ⟨a0, len0, cap0, rfl⟩ := okWide_slice Tryz.underlying45 (hval 0 45 v0 rfl rfl)
  have k0 := h0
  have lt0 : ∀ x ∈ p0, x.block < W.heap.size := by obtain ⟨m, hm⟩ := k0; exact DataW.trod_lt m _ _ _ hm
  obtain ⟨a1, len1, cap1, rfl⟩ := okWide_slice Tryz.underlying45 (hval 1 45 v1 rfl rfl)
  have k1 := h1
  have lt1 : ∀ x ∈ p1, x.block < W.heap.size := by obtain ⟨m, hm⟩ := k1; exact DataW.trod_lt m _ _ _ hm
  obtain ⟨D0, hl0, hD0, hk0⟩ := dms_of_arg h0
  have hb0 : Rows.uptoBulk d0 ≤ 1048576 := by
    have h : Rows.uptoBulkAll _ ≤ 1048576 := of_decide_eq_true hk
    exact Nat.le_trans (bulk_part (by simp)) h
  obtain ⟨D1, hl1, hD1, hk1⟩ := dms_of_arg h1
  have hb1 : Rows.uptoBulk d1 ≤ 1048576 := by
    have h : Rows.uptoBulkAll _ ≤ 1048576 := of_decide_eq_true hk
    exact Nat.le_trans (bulk_part (by simp)) h
  clear hA0 hval0
  refine (lawMSame_any hErr hD0 (fun d hd => Nat.le_trans (hk0 d hd) hb0) hD1 (fun d hd => Nat.le_trans (hk1 d hd) hb1)).mono fun e W' ⟨he, bel⟩ => ?_
  subst he
  exact ⟨_, rfl, _, _, _, [], _, [], hW', trodAll_mk1 (shut_bool Tryz.underlying4 _), (trodAll_cons_mk (Below.trod laidOut (by kernel_rfl) (of_decide_eq_true (by kernel_rfl)) k0 bel lt0) (trodAll_cons_mk (Below.trod laidOut (by kernel_rfl) (of_decide_eq_true (by kernel_rfl)) k1 bel lt1) trodAll_mk0)), rfl, bel.frame _, fun h => by cases h⟩

set_option maxHeartbeats 16000000 in
theorem cl : joinedFacts Tryz.pinned.checked.prog 9 Tryz.f9 Rows.machineSameSpec Rows.machineSameUptoRow = true := by
  unfold joinedFacts
  simp only [Bool.and_eq_true]
  repeat' apply And.intro
  all_goals (as_aux_lemma => kernel_rfl)
theorem fnm : Tryz.pinned.checked.prog.funcNamed Rows.machineSameUptoRow.func = some 9 := by kernel_rfl
theorem inst : Tryz.f9.isInstance Tryz.pinned.checked.prog Rows.machineSameUptoRow.origin Rows.machineSameUptoRow.targs := of_decide_eq_true (by kernel_rfl)
theorem wr : Tryz.f9.isWrapper Tryz.pinned.checked.prog Rows.machineSameUptoRow.wrapper Rows.machineSameUptoRow.mainSum := by unfold Func.isWrapper; first | (rw [if_pos (by decide +kernel)]; kernel_rfl) | (rw [if_neg (by decide +kernel)]; exact ⟨rfl, rfl⟩)
theorem over : Rows.MachineSameUptoSaid :=
  OpenClaim.holds_of_cond 9 Tryz.f9 rfl rfl rfl rfl rfl rfl rfl ⟨rfl, rfl, rfl, rfl, rfl⟩ rfl rfl rfl rfl rfl fnm Tryz.func9 cl inst wr (fun os started H enc _ F => by rw [OpenClaim.pre_eq_preRow]; exact lifted os started H enc F)
theorem named : Tryz.prog.funcNamed "spandrel/spandrellaw09.MachineSame" = some 9 := by kernel_rfl
theorem noStand : ∀ t ∈ [45, 45], Tryz.prog.wantsStandIn t = false := by
  intro t ht
  simp only [List.mem_cons, List.not_mem_nil, or_false] at ht
  rcases ht with rfl | rfl <;> kernel_rfl

theorem proved : Rows.MachineSameUptoCardSaid :=
  Claim7.holds_tied_plain_at .later [] [.handle] true (true, "73e4509f8480c2613f465c6520d6329ec038b933e0a1ed9711b57278fe54956a") true
    over (fun _ h => by cases h) (by kernel_rfl) (fun _ h => by cases h) machineSameUpto_row_tie rfl ⟨rfl, rfl⟩ (by kernel_rfl) rfl
    (fun f fn hf hfn => by
      obtain rfl : f = 9 := Option.some.inj (named.symm.trans hf) |>.symm
      obtain rfl : fn = Tryz.f9 := (Option.some.inj (Tryz.func9.symm.trans hfn)).symm
      exact ⟨by kernel_rfl, fun j t ht => by
        rw [Tryz.params9] at ht
        exact noStand t (by
          have := Array.mem_of_getElem? ht
          simpa using this)⟩)
    (by kernel_rfl)
end Go.Proofs.YtionbmlicmibgaaGreatDoor.machineSame
