import Derived.Test.YtionbmlicmibgaaGreatDoorMcErr
import Derived.Test.YtionbmlicmibgaaGreatDoorX3
import Derived.IntWalk
namespace Go.Proofs.YtionbmlicmibgaaGreatDoor
set_option linter.unusedVariables false
set_option linter.unusedSimpArgs false
open Go.RowKit
structure Mp where
 ix : Int
 tm : Int
 vo : List Int
 S : List Pl
 L : List St
structure Mp.Ok (m : Mp) : Prop where
 i0 : 0 ≤ m.ix
 i1 : m.ix ≤ 1099511627776
 t0 : 0 ≤ m.tm
 t1 : m.tm ≤ 1099511627776
 vo : okR m.vo = true
structure Pm where
 gi : Nat
 gs : Nat
 bm : Nat
 gt : Nat
 bt : Nat
 R : List Tr
 vv : Value
def McC (P : Pm) (k : Nat) : Prop := k = P.gi ∨ k = P.bt ∨ SoM P.bm P.R k
def McS (P : Pm) (k : Nat) : Prop := k = P.gi ∨ k = P.gt ∨ k = P.bt ∨ SoS P.gs P.bm P.R k ∨ P.vv.ownBlock = some k
theorem McC.sub {P : Pm} {k : Nat} (h : McC P k) : McS P k := by
 rcases h with h | h | h
 ·exact .inl h
 ·exact .inr (.inr (.inl h))
 ·exact .inr (.inr (.inr (.inl h.sub)))
def RowM (w : World) (P : Pm) (m : Mp) : Prop := w.heap[P.gi]? = some (.cells #[.pointer (some ⟨P.gs, 0, none⟩), .pointer (some ⟨P.gt, 0, none⟩), .int .i64 m.ix, .int .i64 m.tm, P.vv] 131 (0, 0))
structure McIs (w : World) (P : Pm) (m : Mp) : Prop where
 row : RowM w P m
 so : SoIs w P.gs P.bm P.R
 pl : P.R.map Tr.pl = m.S
 tb : TbIs w P.gt P.bt m.L
 vo : OwnN 0 w P.vv m.vo
 ok : m.Ok
 er : ErrT w
 a1 : ∀ k, SoS P.gs P.bm P.R k → k ≠ P.gi ∧ k ≠ P.gt ∧ k ≠ P.bt
 a2 : P.gi ≠ P.gt ∧ P.gi ≠ P.bt
 a3 : ∀ k, P.vv.ownBlock = some k → k ≠ P.gi ∧ k ≠ P.gt ∧ k ≠ P.bt ∧ ¬ SoS P.gs P.bm P.R k
 nz : ∀ k, McS P k → k ≠ 0
section
variable {w w' : World} {P P' : Pm} {m m' : Mp}
theorem RowM.c0 (h : RowM w P m) : w.cell? ⟨P.gi, 0, none⟩ = some (.pointer (some ⟨P.gs, 0, none⟩)) := cell_of_row w _ 0 _ 131 (0, 0) h
theorem RowM.c1 (h : RowM w P m) : w.cell? ⟨P.gi, 1, none⟩ = some (.pointer (some ⟨P.gt, 0, none⟩)) := cell_of_row w _ 1 _ 131 (0, 0) h
theorem RowM.c2 (h : RowM w P m) : w.cell? ⟨P.gi, 2, none⟩ = some (.int .i64 m.ix) := cell_of_row w _ 2 _ 131 (0, 0) h
theorem RowM.c3 (h : RowM w P m) : w.cell? ⟨P.gi, 3, none⟩ = some (.int .i64 m.tm) := cell_of_row w _ 3 _ 131 (0, 0) h
theorem RowM.c4 (h : RowM w P m) : w.cell? ⟨P.gi, 4, none⟩ = some P.vv := cell_of_row w _ 4 _ 131 (0, 0) h
theorem RowM.fr (h : RowM w P m) (i : Nat) : w.frozen? ⟨P.gi, i, none⟩ = false := frozen_of_row w _ i _ 131 h
theorem RowM.lt (h : RowM w P m) : P.gi < w.heap.size := lt_of_cell h.c0
theorem McIs.lt (h : McIs w P m) : ∀ k, McS P k → k < w.heap.size := by
 rintro k (rfl | rfl | rfl | hk | hk)
 ·exact h.row.lt
 ·exact h.tb.gl
 ·exact h.tb.bl
 ·exact h.so.lt k hk
 ·exact (h.vo.lt k hk).2
theorem OwnN.chgS {B : Nat} {S : Nat → Prop} {v : Value} {l : List Int} (h : OwnN B w v l) (hc : Chg w w' S) (hne : ∀ k, v.ownBlock = some k → ¬ S k) : OwnN B w' v l := by
 refine ⟨?_, h.2⟩
 have h1 := ownsRow_chgN h.1 hc hne
 exact h1
theorem McIs.chg {S : Nat → Prop} (h : McIs w P m) (hc : Chg w w' S) (hS : ∀ k, McS P k → ¬ S k) (h0 : ¬ S 0) : McIs w' P m :=
 ⟨(hc.block _ h.row.lt (hS _ (.inl rfl))).trans h.row, h.so.chg hc (fun k hk => hS k (.inr (.inr (.inr (.inl hk))))), h.pl, h.tb.chg hc (hS _ (.inr (.inl rfl))) (hS _ (.inr (.inr (.inl rfl)))), h.vo.chgS hc (fun k hk => hS k (.inr (.inr (.inr (.inr hk))))), h.ok, h.er.chg hc h0, h.a1, h.a2, h.a3, h.nz⟩
theorem McIs.below (h : McIs w P m) (hb : Below w.heap.size w w') : McIs w' P m := h.chg (Chg.of_below hb fun _ => False) (fun _ _ e => e) (fun e => e)
theorem McIs.drewN (h : McIs w P m) (q : Nat) : McIs (w.drewN q) P m := h.below (bdrew w q)
structure McTo (w w' : World) (P P' : Pm) (m' : Mp) : Prop where
 is : McIs w' P' m'
 gi : P'.gi = P.gi
 chg : Chg w w' (McC P)
 new : ∀ k, McS P' k → McS P k ∨ w.heap.size ≤ k
theorem McTo.below {w2 : World} (h : McTo w w' P P' m') (hb : Below w'.heap.size w' w2) : McTo w w2 P P' m' := ⟨h.is.below hb, h.gi, h.chg.belowed hb, h.new⟩
theorem McIs.notC (h : McIs w P m) {g i : Nat} {u : Value} (hu : w.cell? ⟨g, i, none⟩ = some u) (hg : g ≠ P.gi) : ¬ McC P g := by
 rintro (e | e | e)
 ·exact hg e
 ·obtain ⟨D, hD⟩ := h.tb.map
  obtain ⟨es, clock, h1, _⟩ := hD.map
  rw [show g = P.bt from e] at hu
  simp [World.cell?, h1] at hu
 ·exact h.so.ne_cell hu e
end
def errV (y : Int) : Value := if y = 0 then .nilIface else .iface 238 (.agg #[.int .i64 y])
set_option maxRecDepth 100000 in
theorem refused_any (y : Int) (w : World) : Calls Tryz.prog 147 #[.int .i64 y] w fun e w' => e = .returned (errV y) ∧ w = w' := by
 by_cases h : y = 0
 ·subst h
  go_enter Tryz.func147, Tryz.ntmps147
  go_wp2
  go_ret
  exact ⟨rfl, rfl⟩
 ·have h1 : (y == 0) = false := by simpa using h
  have H : Hid (errV y = .iface 238 (.agg #[.int .i64 y])) := hide (by unfold errV; rw [if_neg h])
  clear h
  go_enter Tryz.func147, Tryz.ntmps147
  go_wp2
  go_ret
  exact ⟨by rw [H.out]; rfl, rfl⟩
def Mp.nxt (m : Mp) (i t : Int) : Bool := i == m.ix + 1 && (decide (i ≤ 1099511627776) && btw (max 1 m.tm) t 1099511627776)
set_option maxRecDepth 200000 in
set_option maxHeartbeats 4000000 in
theorem mfollows_any {w : World} {P : Pm} {m : Mp} (h : McIs w P m) (i t : Int) (p : Option Addr) (n c : Nat) : Calls Tryz.prog 77 #[.pointer (some ⟨P.gi, 0, none⟩), .agg #[.int .i64 i, .int .i64 t, .slice p n c]] w fun e w' => e = .returned (.bool (m.nxt i t)) ∧ Below w.heap.size w w' := by
 have hb := (Below.refl w.heap.size w).alloc (Nat.le_refl _) (.cells #[.int .i64 i, .int .i64 t, .slice p n c] 55)
 have h' := h.below hb
 have z2 := h'.row.c2
 have z3 := h'.row.c3
 have hix := h.ok.i1
 have hix0 := h.ok.i0
 have HB := hide hb
 obtain ⟨N, hN⟩ : ∃ N, m.nxt i t = N := ⟨_, rfl⟩
 rw [hN]
 obtain ⟨X, hX⟩ : ∃ X, m.ix = X := ⟨_, rfl⟩
 obtain ⟨T, hT⟩ : ∃ X, m.tm = X := ⟨_, rfl⟩
 rw [hX] at z2 hix hix0
 rw [hT] at z3
 unfold Mp.nxt at hN
 rw [hX, hT] at hN
 have HG := hide h.row.lt
 obtain ⟨MT, hMT⟩ : ∃ X, max 1 T = X := ⟨_, rfl⟩
 obtain ⟨Y, hY⟩ : ∃ Y, X + 1 = Y := ⟨_, rfl⟩
 rw [hMT, hY] at hN
 have hw : IntKind.i64.wrap (X + 1) = Y := by rw [← hY]; exact IntWalk.i64_in _ (by omega)
 have BT := hide (fun W => between_any W MT t 1099511627776)
 clear h h' hb hX hT hY
 cases e1 : (i == Y)
 ·rw [e1] at hN
  have HN := hide hN
  clear hN
  go_enter Tryz.func77, Tryz.ntmps77
  go_wp2
  go_quiet (fail)
  go_wp2
  go_ret
  exact ⟨by rw [← HN.out]; rfl, HB.out.trans ((bdrew _ _).mono HB.out.size)⟩
 ·cases e2 : decide (i ≤ 1099511627776)
  ·rw [e1, e2] at hN
   have HN := hide hN
   clear hN
   go_enter Tryz.func77, Tryz.ntmps77
   go_wp2
   go_quiet (fail)
   go_wp2
   go_ret
   exact ⟨by rw [← HN.out]; rfl, HB.out.trans ((bdrew _ _).mono HB.out.size)⟩
  ·rw [e1, e2, Bool.true_and, Bool.true_and] at hN
   rw [hN] at BT
   clear hN
   go_enter Tryz.func77, Tryz.ntmps77
   go_wp2
   go_quiet ((go_at_call 59; exact Calls.quiet_of_same ((BT.out _).mono fun e w' h => ⟨h.1, h.2.symm⟩)))
   go_wp2
   go_ret
   exact ⟨rfl, HB.out.trans ((bdrew _ _).mono HB.out.size)⟩
end Go.Proofs.YtionbmlicmibgaaGreatDoor
