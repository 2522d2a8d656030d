import Derived.Test.YtionbmlicmibgaaGreatDoorMcErr
import Derived.Test.YtionbmlicmibgaaGreatDoorX3
import Derived.IntWalk
set_option linter.unusedVariables false
set_option linter.unusedSimpArgs false
namespace Go.Proofs.YtionbmlicmibgaaGreatDoor
open Go.Proofs.Tryz
set_option maxRecDepth 200000
set_option maxHeartbeats 4000000
open Go.RowKit
structure Mp where
 ix : Int
 tm : Int
 vo : List Int
 S : List Pl
 L : List St
structure Mp.Ok (m : Mp) : Prop where
 i0 : 0 ≤ m.ix
 i1 : m.ix ≤ 1099511627776
 t0 : 0 ≤ m.tm
 t1 : m.tm ≤ 1099511627776
 vo : lU m.vo = true
structure Pm where
 gi : Nat
 gs : Nat
 bm : Nat
 gt : Nat
 bt : Nat
 R : List Tr
 vv : Value
def Dz (P : Pm) (k : Nat) : Prop := k = P.gi ∨ k = P.bt ∨ vm P.bm P.R k
def kU (P : Pm) (k : Nat) : Prop := k = P.gi ∨ k = P.gt ∨ k = P.bt ∨ mT P.gs P.bm P.R k ∨ P.vv.ownBlock = some k
theorem Dz.sub {P : Pm} {k : Nat} (h : Dz P k) : kU P k := by
 rcases h with h | h | h
 ·exact .inl h
 ·exact .inr (.inr (.inl h))
 ·exact .inr (.inr (.inr (.inl h.sub)))
def iq (w : World) (P : Pm) (m : Mp) : Prop := w.heap[P.gi]? = some (.cells #[.pointer (some ⟨P.gs, 0, none⟩), .pointer (some ⟨P.gt, 0, none⟩), .int .i64 m.ix, .int .i64 m.tm, P.vv] 131 (0, 0))
structure dc (w : World) (P : Pm) (m : Mp) : Prop where
 row : iq w P m
 so : bR w P.gs P.bm P.R
 pl : P.R.map Tr.pl = m.S
 tb : d_ w P.gt P.bt m.L
 vo : bJ 0 w P.vv m.vo
 ok : m.Ok
 er : ko w
 a1 : ∀ k, mT P.gs P.bm P.R k → k ≠ P.gi ∧ k ≠ P.gt ∧ k ≠ P.bt
 a2 : P.gi ≠ P.gt ∧ P.gi ≠ P.bt
 a3 : ∀ k, P.vv.ownBlock = some k → k ≠ P.gi ∧ k ≠ P.gt ∧ k ≠ P.bt ∧ ¬ mT P.gs P.bm P.R k
 nz : ∀ k, kU P k → k ≠ 0
section
variable {w w' : World} {P P' : Pm} {m m' : Mp}
theorem iq.c0 (h : iq w P m) : w.cell? ⟨P.gi, 0, none⟩ = some (.pointer (some ⟨P.gs, 0, none⟩)) := acC w _ 0 _ 131 (0, 0) h
theorem iq.c1 (h : iq w P m) : w.cell? ⟨P.gi, 1, none⟩ = some (.pointer (some ⟨P.gt, 0, none⟩)) := acC w _ 1 _ 131 (0, 0) h
theorem iq.c2 (h : iq w P m) : w.cell? ⟨P.gi, 2, none⟩ = some (.int .i64 m.ix) := acC w _ 2 _ 131 (0, 0) h
theorem iq.c3 (h : iq w P m) : w.cell? ⟨P.gi, 3, none⟩ = some (.int .i64 m.tm) := acC w _ 3 _ 131 (0, 0) h
theorem iq.c4 (h : iq w P m) : w.cell? ⟨P.gi, 4, none⟩ = some P.vv := acC w _ 4 _ 131 (0, 0) h
theorem iq.fr (h : iq w P m) (i : Nat) : w.frozen? ⟨P.gi, i, none⟩ = false := acI w _ i _ 131 h
theorem iq.lt (h : iq w P m) : P.gi < w.heap.size := lt_of_cell h.c0
theorem dc.lt (h : dc w P m) : ∀ k, kU P k → k < w.heap.size := by
 rintro k (rfl | rfl | rfl | hk | hk)
 ·exact h.row.lt
 ·exact h.tb.gl
 ·exact h.tb.bl
 ·exact h.so.lt k hk
 ·exact (h.vo.lt k hk).2
theorem bJ.eG {B : Nat} {S : Nat → Prop} {v : Value} {l : List Int} (h : bJ B w v l) (hc : ak w w' S) (aN : ∀ k, v.ownBlock = some k → ¬ S k) : bJ B w' v l := by
 refine ⟨?_, h.2⟩;have h1 := fM h.1 hc aN;exact h1
theorem dc.aU {S : Nat → Prop} (h : dc w P m) (hc : ak w w' S) (hS : ∀ k, kU P k → ¬ S k) (h0 : ¬ S 0) : dc w' P m :=
 ⟨(hc.block _ h.row.lt (hS _ (.inl rfl))).trans h.row, h.so.aU hc (fun k hk => hS k (.inr (.inr (.inr (.inl hk))))), h.pl, h.tb.aU hc (hS _ (.inr (.inl rfl))) (hS _ (.inr (.inr (.inl rfl)))), h.vo.eG hc (fun k hk => hS k (.inr (.inr (.inr (.inr hk))))), h.ok, h.er.aU hc h0, h.a1, h.a2, h.a3, h.nz⟩
theorem dc.below (h : dc w P m) (hb : Below w.heap.size w w') : dc w' P m := h.aU (ak.of_below hb fun _ => False) (fun _ _ e => e) (fun e => e)
theorem dc.drewN (h : dc w P m) (q : Nat) : dc (w.drewN q) P m := h.below (ag w q)
structure fV (w w' : World) (P P' : Pm) (m' : Mp) : Prop where
 is : dc w' P' m'
 gi : P'.gi = P.gi
 aU : ak w w' (Dz P)
 new : ∀ k, kU P' k → kU P k ∨ w.heap.size ≤ k
theorem fV.below {w2 : World} (h : fV w w' P P' m') (hb : Below w'.heap.size w' w2) : fV w w2 P P' m' := ⟨h.is.below hb, h.gi, h.aU.cC hb, h.new⟩
theorem dc.yH (h : dc w P m) {g i : Nat} {u : Value} (hu : w.cell? ⟨g, i, none⟩ = some u) (hg : g ≠ P.gi) : ¬ Dz P g := by
 rintro (e | e | e)
 ·exact hg e
 ·obtain ⟨D, hD⟩ := h.tb.map;obtain ⟨es, clock, h1, _⟩ := hD.map;rw [show g = P.bt from e] at hu;simp [World.cell?, h1] at hu
 ·exact h.so.dD hu e
end
def rR (y : Int) : Value := if y = 0 then .nilIface else .iface 238 (.agg #[.int .i64 y])
theorem gV (y : Int) (w : World) : Calls prog 147 #[.int .i64 y] w fun e w' => e = .returned (rR y) ∧ w = w' := by
 by_cases h : y = 0
 ·subst h;go_enter func147, ntmps147
  go_wp2;go_ret;exact ⟨rfl, rfl⟩
 ·have h1 : (y == 0) = false := by simpa using h
  have H : Hid (rR y = .iface 238 (.agg #[.int .i64 y])) := af (by unfold rR; rw [acO h]);clear h;go_enter func147, ntmps147
  go_wp2;go_ret;exact ⟨by rw [H.out]; rfl, rfl⟩
def Mp.Qj (m : Mp) (i t : Int) : Bool := i == m.ix + 1 && (decide (i ≤ 1099511627776) && oM (max 1 m.tm) t 1099511627776)
theorem yG {w : World} {P : Pm} {m : Mp} (h : dc w P m) (i t : Int) (p : Option Addr) (n c : Nat) : Calls prog 77 #[.pointer (some ⟨P.gi, 0, none⟩), .agg #[.int .i64 i, .int .i64 t, .slice p n c]] w fun e w' => e = .returned (.bool (m.Qj i t)) ∧ Below w.heap.size w w' := by
 have hb := (acG w.heap.size w).alloc (acE _) (.cells #[.int .i64 i, .int .i64 t, .slice p n c] 55);have h' := h.below hb;have z2 := h'.row.c2;have z3 := h'.row.c3;have Nr := h.ok.i1;have aat := h.ok.i0;have HB := af hb;obtain ⟨N, hN⟩ : ∃ N, m.Qj i t = N := ⟨_, rfl⟩
 rw [hN];obtain ⟨X, hX⟩ : ∃ X, m.ix = X := ⟨_, rfl⟩
 obtain ⟨T, hT⟩ : ∃ X, m.tm = X := ⟨_, rfl⟩
 rw [hX] at z2 Nr aat;rw [hT] at z3;unfold Mp.Qj at hN;rw [hX, hT] at hN;have HG := af h.row.lt;obtain ⟨MT, hMT⟩ : ∃ X, max 1 T = X := ⟨_, rfl⟩
 obtain ⟨Y, hY⟩ : ∃ Y, X + 1 = Y := ⟨_, rfl⟩
 rw [hMT, hY] at hN;have hw : IntKind.i64.wrap (X + 1) = Y := by rw [← hY]; exact IntWalk.i64_in _ (by omega)
 have BT := af (fun W => dY W MT t 1099511627776);clear h h' hb hX hT hY;cases e1 : (i == Y)
 focus
  rw [e1] at hN
 rotate_left
 focus
  cases e2 : decide (i ≤ 1099511627776)
  focus
   rw [e1, e2] at hN
  rotate_left
  ·rw [e1, e2, adY, adY] at hN;rw [hN] at BT;clear hN;go_enter func77, ntmps77
   go_wp2;go_quiet ((go_at_call 59; exact Calls.quiet_of_same ((BT.out _).mono fun e w' h => ⟨h.1, h.2.symm⟩)))
   go_wp2;go_ret;exact ⟨rfl, HB.out.trans ((ag _ _).mono HB.out.size)⟩
 all_goals
  have HN := af hN;clear hN;go_enter func77, ntmps77
  go_wp2;go_quiet (fail)
  go_wp2;go_ret;exact ⟨by rw [← HN.out]; rfl, HB.out.trans ((ag _ _).mono HB.out.size)⟩
end Go.Proofs.YtionbmlicmibgaaGreatDoor
