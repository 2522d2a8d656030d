/- MachineGets (P9.1): the command of which any bytes are, or that they are none's. Condition: errors.errorType holds what the program's text lays there (the card ties it). -/
import Derived.Test.YtionbmlicmibgaaGreatDoorS10
import Derived.Test.YtionbmlicmibgaaGreatDoorMcPlay
import Derived.Test.YtionbmlicmibgaaGreatDoorMcCln
import Derived.Test.YtionbmlicmibgaaGreatDoorMcAw
import Derived.Test.YtionbmlicmibgaaGreatDoorRows
import Derived.Test.YtionbmlicmibgaaGreatDoorMcErr
import Derived.ChangeSame
import Derived.ChangeVars
import Derived.JoinedOf
import Derived.RowKit
import Derived.RowKitTokens
import Derived.LaidLaws
import Derived.LaidHandle
import Derived.Stop.Joined
import Derived.Test.YtionbmlicmibgaaGreatDoorMcPure
import Derived.Test.YtionbmlicmibgaaGreatDoorS14d
import Derived.Test.YtionbmlicmibgaaGreatDoorMcGet
import Derived.Test.YtionbmlicmibgaaGreatDoorMcRead
import Derived.Test.YtionbmlicmibgaaGreatDoorMcRPut
import Derived.Test.YtionbmlicmibgaaGreatDoorMcGetG
import Derived.Test.YtionbmlicmibgaaGreatDoorCards
import Derived.Test.YtionbmlicmibgaaGreatDoorTie
import Derived.Test.YtionbmlicmibgaaGreatDoorMcArg
import Derived.Test.YtionbmlicmibgaaGreatDoorMcArgZ
import Derived.SevenTiedAt
import Derived.WalkKit
import Derived.ProofKit
import Derived.OpenShut
import Derived.ShutString
import Derived.ChangeOld
import Derived.Below
import Derived.SizedLaws
namespace Go.Proofs.YtionbmlicmibgaaGreatDoor
set_option linter.unusedVariables false
set_option linter.unusedSimpArgs false
open Go.RowKit
theorem eqI_any {w : World} {B B' n : Nat} {v u : Value} {l : List Int} (hv : w.ownsRow B 3 1 v n (l.map (Value.int .i64))) (hu : w.ownsRow B' 3 1 u n (l.map (Value.int .i64))) : Calls Tryz.prog 30 #[v, u] w fun e w' => e = .returned (.bool true) ∧ Below w.heap.size w w' := by
 obtain ⟨p, c, rfl, hn, hm, hcl⟩ := ints_row hv
 obtain ⟨q, d, rfl, _, _, hcl2⟩ := ints_row hu
 have hmx : maxLen = 9223372036854775807 := rfl
 by_cases h0 : 0 < n
 ·obtain ⟨g, rfl, _, hc⟩ := hcl h0
  obtain ⟨g', rfl, _, hc'⟩ := hcl2 h0
  have e1 : ∀ j, (hj : j < l.length) → l.getD j 0 = l[j] := fun j hj => by simp [List.getD, hj]
  refine (Tryz.slices_Equal_int g 0 n c g' 0 n d l l w (by omega) (by omega) (by omega) (by omega) (fun j hj => by rw [e1 j hj, Nat.zero_add]; exact hc j _ (List.getElem?_eq_getElem hj)) (fun j hj => by rw [e1 j hj, Nat.zero_add]; exact hc' j _ (List.getElem?_eq_getElem hj))).mono fun e w' ⟨he, q, hw⟩ => ⟨?_, by rw [hw]; exact bdrew w q⟩
  rw [he]
  simp
 ·obtain rfl : n = 0 := by omega
  refine (Tryz.slices_Equal_int_empty p q c 0 d w (by omega)).mono fun e w' ⟨he, hw⟩ => ⟨?_, by rw [hw]; exact Below.refl _ _⟩
  rw [he]
  rfl
end Go.Proofs.YtionbmlicmibgaaGreatDoor
namespace Go.Proofs.YtionbmlicmibgaaGreatDoor
set_option linter.unusedVariables false
set_option linter.unusedSimpArgs false
open Go.RowKit
theorem bthen {w a b : World} (h : Below w.heap.size w a) (k : Below a.heap.size a b) : Below w.heap.size w b := h.trans (k.mono h.size)
theorem mimage_is {w : World} {gm : Nat} {P : Pm} {m : Mp} (h : MkIs w gm P m) : Calls Tryz.prog 39 #[.pointer (some ⟨gm, 0, none⟩)] w fun e w' => ∃ p n c, e = .returned (.slice p n c) ∧ Own w.heap.size w' (.slice p n c) (imgM m) ∧ Below w.heap.size w w' := by
 have h1 := imgS_len h.is.so.ok
 rw [h.is.pl] at h1
 have h2 := imgT_len h.is.tb.ok
 exact (mimage_any h (by omega) (by omega)).mono fun e w' ⟨v, he, ho, hb⟩ => by
  obtain ⟨p, n, c, rfl⟩ := ho.by_.sl
  exact ⟨p, n, c, he, ho, hb⟩
def TrsR (w : World) (v : Value) (m : Mp) : Prop := ∃ B, w.ownsRow B 3 1 v m.S.length ((m.S.map (·.1)).map (Value.int .i64))
theorem TrsR.below {w w' : World} {v : Value} {m : Mp} (h : TrsR w v m) (hb : Below w.heap.size w w') : TrsR w' v m := by
 obtain ⟨B, h⟩ := h
 exact ⟨B, row_below h hb⟩
theorem mtraces_is {w : World} {gm : Nat} {P : Pm} {m : Mp} (h : MkIs w gm P m) : Calls Tryz.prog 42 #[.pointer (some ⟨gm, 0, none⟩)] w fun e w' => ∃ p n c, e = .returned (.slice p n c) ∧ TrsR w' (.slice p n c) m ∧ Below w.heap.size w w' := (mtraces_tell h).mono fun e w' ⟨v, he, ho, hb⟩ => by
 have hl : P.R.length = m.S.length := by rw [← h.is.pl, List.length_map]
 rw [hl, tr_fst, h.is.pl] at ho
 obtain ⟨p, c, rfl, _⟩ := ints_row ho
 exact ⟨p, _, c, he, ⟨_, ho⟩, hb⟩
theorem eqTrs_any {w : World} {p : Option Addr} {n c : Nat} {p' : Option Addr} {n' c' : Nat} {m m' : Mp} (h : TrsR w (.slice p n c) m) (h' : TrsR w (.slice p' n' c') m') (e : m'.S.map (·.1) = m.S.map (·.1)) : Calls Tryz.prog 30 #[.slice p n c, .slice p' n' c'] w fun e w' => e = .returned (.bool true) ∧ Below w.heap.size w w' := by
 obtain ⟨B, h⟩ := h
 obtain ⟨B', h'⟩ := h'
 have hl : m'.S.length = m.S.length := by have := congrArg List.length e; simpa using this
 rw [e, hl] at h'
 exact eqI_any h h'
theorem nxt_ix {m : Mp} {i t : Int} (h : m.nxt i t = true) : i = m.ix + 1 := by
 unfold Mp.nxt at h
 simp at h
 exact h.1
end Go.Proofs.YtionbmlicmibgaaGreatDoor
namespace Go.Proofs.YtionbmlicmibgaaGreatDoor
set_option linter.unusedVariables false
set_option linter.unusedSimpArgs false
open Go.ChangeShapes Go.WideShapes Go.RowKit
theorem Tryz.own : ownKnob Tryz.prog.godebug = none := by kernel_rfl
theorem Tryz.et : Tryz.prog.globalNamed "errors.errorType" = some 0 := by kernel_rfl
theorem Tryz.rt : (Tryz.prog.cutTypes.find? (·.1 == "internal/reflectlite.rtype")).map (·.2) = some 242 := by kernel_rfl
theorem Tryz.oneRow : ((List.range 334).filter fun t => Tryz.prog.rowNamed t [101, 114, 114, 111, 114]) = [175] := by kernel_rfl
theorem Tryz.size : Tryz.prog.types.size = 334 := by kernel_rfl
def laidL : List (String × DataW Unit) := [("errors.errorType", Rows.laid_errors_errorType)]
theorem errT_of_laid {W : World} (h : laidMetH Tryz.prog laidL W) : ErrT W := by
 have h' : laidMet Tryz.prog [] W ∧ handlesMet Tryz.prog laidL W := h
 obtain ⟨name, u, ty, e1, e2, e3, e4, e5⟩ := h'.2 _ (List.mem_singleton.2 rfl)
 have en : name = [101, 114, 114, 111, 114] := (Option.some.inj e1).symm
 subst en
 obtain rfl := Option.some.inj (Tryz.rt.symm.trans e2)
 have hm : ty ∈ (List.range 334).filter fun t => Tryz.prog.rowNamed t [101, 114, 114, 111, 114] := List.mem_filter.2 ⟨List.mem_range.2 (by rw [← Tryz.size]; exact e3), e4⟩
 rw [Tryz.oneRow] at hm
 obtain rfl := List.mem_singleton.1 hm
 have hh : typeHandle Tryz.prog 175 = .pointer (some ⟨2, 175, none⟩) := by kernel_rfl
 rw [hh] at e5
 have h9 := World.var?_cell Tryz.et e5 0
 unfold ErrT
 simpa using h9
noncomputable def laidWorld (os : Os) : World :=
 let w0 := World.holding Tryz.prog os ⟨#[], #[], []⟩
 { w0 with heap := w0.heap.modify 0 fun
   | .cells _ t frozen => .cells #[.iface 242 (.agg #[.pointer (some ⟨2, 175, none⟩)])] t frozen
   | o => o }
theorem laidWorld_met (os : Os) (args : Array Value) : laidMetH Tryz.prog laidL ((laidWorld os).forCall (fun _ _ => 0) ⟨#[], args, []⟩).memory :=
 laidMetH_of_parts (laidMet_nil _ _) (by kernel_rfl)
end Go.Proofs.YtionbmlicmibgaaGreatDoor
namespace Go.Proofs.YtionbmlicmibgaaGreatDoor
set_option linter.unusedVariables false
set_option linter.unusedSimpArgs false
open Go.RowKit
def rdT (l : List UInt8) (st : Nat × Nat) : List UInt8 × (Nat × Nat) := tx l 4096 st
def rdR (l : List UInt8) : Option (Cm × (Nat × Nat)) :=
 if (nx l (0, 0)).1 = 2 then
  (if (refP (rdT l (nx l (nx l (nx l (0, 0)).2).2).2).1).2 = 0 then some (⟨2, (nx l (nx l (0, 0)).2).1, (nx l (nx l (nx l (0, 0)).2).2).1, 0, (refP (rdT l (nx l (nx l (nx l (0, 0)).2).2).2).1).1, []⟩, (rdT l (nx l (nx l (nx l (0, 0)).2).2).2).2) else none)
 else if (nx l (0, 0)).1 = 3 ∨ (nx l (0, 0)).1 = 4 then some (⟨((nx l (0, 0)).1 : Nat), 0, 0, (nx l (nx l (0, 0)).2).1, [], []⟩, (nx l (nx l (0, 0)).2).2)
 else if (nx l (0, 0)).1 = 5 then some (⟨5, 0, 0, 0, [], (rdN l (min (nx l (nx l (0, 0)).2).1 8) (nx l (nx l (0, 0)).2).2).1⟩, (rdN l (min (nx l (nx l (0, 0)).2).1 8) (nx l (nx l (0, 0)).2).2).2)
 else some (⟨((nx l (0, 0)).1 : Nat), 0, 0, 0, [], []⟩, (nx l (0, 0)).2)
theorem enc_ge (m : List Sp) : m.length ≤ (encL m).length := by
 unfold encL
 rw [List.length_append, List.length_flatten, List.map_map]
 have h0 : ∀ k : List Sp, k.length ≤ (k.map (List.length ∘ Sp.bytes)).sum := fun k => by
  induction k with
  | nil => simp
  | cons y q ih =>
   have hp : 1 ≤ (Sp.bytes y).length := by
    unfold Sp.bytes
    simp only [List.length_append]
    have := digits_pos y.t.toNat
    omega
   simp only [List.map_cons, List.sum_cons, List.length_cons, Function.comp]
   omega
 have := h0 m
 omega
theorem refP_enc {sp : List Sp} (h : spsOk sp = true) : refP (encL sp) = (sp, 0) := by
 obtain ⟨r, e, hr⟩ : ∃ r e, refP (encL sp) = (r, e) := ⟨_, _, rfl⟩
 have hg := refP_is (encL sp)
 have h5 := spsOk_len h
 obtain ⟨_, q2, q3⟩ := spsOk_ok h
 rw [hr] at hg ⊢
 rcases hg with ⟨h1, h2, h3⟩ | ⟨_, _, h3⟩
 ·dsimp only at h1 h2 h3
  have h4 := enc_ge r
  rw [h3] at h4
  have a1 := getP_enc sp (by omega) q3
  have a2 := getP_enc r (by omega) h2
  rw [h3, a1] at a2
  injection a2 with a2 _
  rw [a2, h1]
 ·exact absurd rfl (h3 sp (by omega) q3)
theorem rdR_bytes {c : Cm} (h : c.ok = true) : rdR c.bytes = some (c, (c.bytes.length, 0)) := by
 rcases (Cm.ok_iff c).1 h with ⟨h1, h2⟩ | ⟨h1, h2, h3, h4, h5⟩ | ⟨h1, h2, h3⟩ | ⟨h1, h2, h3⟩ | ⟨h1, h2, h3⟩
 ·have hb : c.bytes.drop 0 = digits c.k.toNat ++ [] := by
   rw [h2]
   unfold Cm.bytes
   rcases h1 with h1 | h1 <;> rw [h1] <;> rfl
  have hn := nx_digits (l := c.bytes) (a := 0) (n := c.k.toNat) (by omega) hb
  have hl := congrArg List.length hb
  rw [List.drop_zero, List.append_nil] at hl
  unfold rdR
  rw [hn]
  dsimp only
  rw [if_neg (by omega), if_neg (by omega), if_neg (by omega), hl, Nat.zero_add]
  refine congrArg some (Prod.ext ?_ rfl)
  dsimp only
  rcases h1 with h1 | h1 <;> rw [h1] at h2 ⊢ <;> rw [h2] <;> rfl
 ·obtain ⟨k, se, sq, a, sp, vo⟩ := c
  simp only [Cm.mk.injEq] at h2
  obtain ⟨rfl, _, _, rfl, _, rfl⟩ := h2
  dsimp only at h3 h4 h5
  rw [btw_iff] at h3 h4
  have hb : (Cm.bytes ⟨2, se, sq, 0, sp, []⟩).drop 0 = digits 2 ++ (digits se.toNat ++ (digits sq.toNat ++ (digits (encL sp).length ++ (encL sp ++ [])))) := by
   unfold Cm.bytes
   simp [nmB, txB]
  generalize Cm.bytes ⟨2, se, sq, 0, sp, []⟩ = l at hb
  have n1 := nx_digits (l := l) (a := 0) (n := 2) (by omega) hb
  have hb1 := drop_more hb
  have n2 := nx_digits (l := l) (n := se.toNat) (by omega) hb1
  have hb2 := drop_more hb1
  have n3 := nx_digits (l := l) (n := sq.toNat) (by omega) hb2
  have hb3 := drop_more hb2
  have hl := congrArg List.length hb3
  rw [List.length_drop, List.length_append, List.length_append] at hl
  have hp := digits_pos (encL sp).length
  have he := spsOk_len h5
  have hl0 := congrArg List.length hb
  simp only [List.drop_zero, List.length_append, List.length_nil] at hl0
  have ht := tx_digitsL (l := l) (most := 4096) (x := encL sp) (by omega) (by omega) (by omega) hb3
  unfold rdR rdT
  rw [n1]
  dsimp only
  rw [if_pos rfl, n2]
  dsimp only
  rw [n3]
  dsimp only
  rw [ht]
  dsimp only
  rw [refP_enc h5]
  dsimp only
  rw [if_pos rfl]
  refine congrArg some (Prod.ext ?_ (Prod.ext ?_ rfl))
  ·dsimp only
   simp only [Cm.mk.injEq, true_and, and_true]
   omega
  ·dsimp only
   omega
 ·obtain ⟨k, se, sq, a, sp, vo⟩ := c
  simp only [Cm.mk.injEq] at h2
  obtain ⟨rfl, rfl, rfl, _, rfl, rfl⟩ := h2
  dsimp only at h3
  rw [btw_iff] at h3
  have hb : (Cm.bytes ⟨3, 0, 0, a, [], []⟩).drop 0 = digits 3 ++ (digits a.toNat ++ []) := by
   unfold Cm.bytes
   simp [nmB]
  generalize Cm.bytes ⟨3, 0, 0, a, [], []⟩ = l at hb
  have n1 := nx_digits (l := l) (a := 0) (n := 3) (by omega) hb
  have n2 := nx_digits (l := l) (n := a.toNat) (by omega) (drop_more hb)
  have hl0 := congrArg List.length hb
  simp only [List.drop_zero, List.length_append, List.length_nil] at hl0
  unfold rdR
  rw [n1]
  dsimp only
  rw [if_neg (by decide), if_pos (.inl rfl), n2]
  refine congrArg some (Prod.ext ?_ (Prod.ext ?_ rfl))
  ·dsimp only
   simp only [Cm.mk.injEq, true_and, and_true]
   omega
  ·dsimp only
   omega
 ·obtain ⟨k, se, sq, a, sp, vo⟩ := c
  simp only [Cm.mk.injEq] at h2
  obtain ⟨rfl, rfl, rfl, _, rfl, rfl⟩ := h2
  dsimp only at h3
  rw [btw_iff] at h3
  have hb : (Cm.bytes ⟨4, 0, 0, a, [], []⟩).drop 0 = digits 4 ++ (digits a.toNat ++ []) := by
   unfold Cm.bytes
   simp [nmB]
  generalize Cm.bytes ⟨4, 0, 0, a, [], []⟩ = l at hb
  have n1 := nx_digits (l := l) (a := 0) (n := 4) (by omega) hb
  have n2 := nx_digits (l := l) (n := a.toNat) (by omega) (drop_more hb)
  have hl0 := congrArg List.length hb
  simp only [List.drop_zero, List.length_append, List.length_nil] at hl0
  unfold rdR
  rw [n1]
  dsimp only
  rw [if_neg (by decide), if_pos (.inr rfl), n2]
  refine congrArg some (Prod.ext ?_ (Prod.ext ?_ rfl))
  ·dsimp only
   simp only [Cm.mk.injEq, true_and, and_true]
   omega
  ·dsimp only
   omega
 ·obtain ⟨k, se, sq, a, sp, vo⟩ := c
  simp only [Cm.mk.injEq] at h2
  obtain ⟨rfl, rfl, rfl, rfl, rfl, _⟩ := h2
  dsimp only at h3
  obtain ⟨q1, q2⟩ := okR_len h3
  have hb : (Cm.bytes ⟨5, 0, 0, 0, [], vo⟩).drop 0 = digits 5 ++ (digits vo.length ++ (nmB vo ++ [])) := by
   unfold Cm.bytes
   simp [nmB]
  generalize Cm.bytes ⟨5, 0, 0, 0, [], vo⟩ = l at hb
  have n1 := nx_digits (l := l) (a := 0) (n := 5) (by omega) hb
  have n2 := nx_digits (l := l) (n := vo.length) (by omega) (drop_more hb)
  have n3 := rdN_at (l := l) vo (fun n hn => by have := q2 n hn; omega) (drop_more (drop_more hb))
  have hl0 := congrArg List.length hb
  simp only [List.drop_zero, List.length_append, List.length_nil] at hl0
  unfold rdR
  rw [n1]
  dsimp only
  rw [if_neg (by decide), if_neg (by decide), if_pos rfl, n2]
  dsimp only
  rw [Nat.min_eq_left (by omega), n3]
  refine congrArg some (Prod.ext rfl (Prod.ext ?_ rfl))
  dsimp only
  omega
def finR (l : List UInt8) : Option (Cm × (Nat × Nat)) → Option Cm
 | none => none
 | some (x, s) => if x.ok = true ∧ s.2 = 0 ∧ s.1 = l.length ∧ x.bytes = l then some x else none
theorem getC_rdR (l : List UInt8) : getC l = finR l (rdR l) := by
 cases hg : getC l with
 | some c =>
  obtain ⟨h1, h2, _⟩ := getC_some hg
  have h3 := rdR_bytes h1
  rw [h2] at h3
  rw [h3]
  unfold finR
  dsimp only
  rw [if_pos ⟨h1, rfl, rfl, h2⟩]
 | none =>
  cases hr : rdR l with
  | none => rfl
  | some y =>
   obtain ⟨x, s⟩ := y
   unfold finR
   dsimp only
   split
   ·rename_i h
    have h1 := getC_bytes h.1
    rw [h.2.2.2, hg] at h1
    cases h1
   ·rfl
end Go.Proofs.YtionbmlicmibgaaGreatDoor
namespace Go.Proofs.YtionbmlicmibgaaGreatDoor
set_option linter.unusedVariables false
set_option linter.unusedSimpArgs false
open Go.RowKit
def endX (n at_ E : Nat) : Nat := if E = 0 ∧ at_ < n then 3 else E
theorem Sr.drewN {w : World} {g : Nat} {v : Value} {a E : Nat} (h : Sr w g v a E) (q : Nat) : Sr (w.drewN q) g v a E := h
theorem grown_drew_set (w : World) (g i q : Nat) (x : Value) : w.grownBy ((w.drewN q).setCell ⟨g, i, none⟩ x) (some g) := gtrans (gof (bdrew w q) (some g)) (grown_set (w.drewN q) g i x)
set_option maxRecDepth 200000 in
set_option maxHeartbeats 4000000 in
theorem rend_any {w : World} {g : Nat} {p : Option Addr} {n c at_ E : Nat} (hS : Sr w g (.slice p n c) at_ E) : Calls Tryz.prog 73 #[.pointer (some ⟨g, 0, none⟩)] w (SrPost w g (.slice p n c) at_ (endX n at_ E) (.int .i64 (endX n at_ E : Nat))) := by
 have x0 : ∀ q, (w.drewN q).cell? ⟨g, 0, none⟩ = some (.slice p n c) := fun _ => hS.c0
 have x1 : ∀ q, (w.drewN q).cell? ⟨g, 1, none⟩ = some (.int .i64 (at_ : Int)) := fun _ => hS.c1
 have x2 : ∀ q, (w.drewN q).cell? ⟨g, 2, none⟩ = some (.int .i64 (E : Int)) := fun _ => hS.c2
 have f2 : ∀ q, (w.drewN q).frozen? ⟨g, 2, none⟩ = false := fun _ => hS.fr 2
 have HS := hide hS
 clear hS
 by_cases he : E = 0
 ·have e1 : ((E : Int) == 0) = true := by simpa using he
  by_cases ha : at_ < n
  ·have e2 : decide (at_ < n) = true := decide_eq_true ha
   have e3 : decide ((at_ : Int) < (n : Int)) = true := decide_eq_true (by omega)
   have HE : Hid (endX n at_ E = 3) := hide (by unfold endX; exact if_pos ⟨he, ha⟩)
   rw [HE.out]
   clear he ha
   go_enter Tryz.func73, Tryz.ntmps73
   go_wp2
   go_quiet (fail)
   all_goals
    go_wp2
    go_ret
    exact ⟨rfl, (HS.out.drewN _).set2 (by rfl), grown_drew_set _ _ _ _ _⟩
  ·have e2 : decide (at_ < n) = false := decide_eq_false ha
   have e3 : decide ((at_ : Int) < (n : Int)) = false := decide_eq_false (by omega)
   have HE : Hid (endX n at_ E = E) := hide (by unfold endX; exact if_neg (fun h => ha h.2))
   rw [HE.out]
   clear he ha
   go_enter Tryz.func73, Tryz.ntmps73
   go_wp2
   go_quiet (fail)
   all_goals
    go_wp2
    go_ret
    exact ⟨rfl, HS.out.drewN _, gof (bdrew w _) _⟩
 ·have e1 : ((E : Int) == 0) = false := by simpa using he
  have HE : Hid (endX n at_ E = E) := hide (by unfold endX; exact if_neg (fun h => he h.1))
  rw [HE.out]
  clear he
  go_enter Tryz.func73, Tryz.ntmps73
  go_wp2
  go_quiet (fail)
  all_goals
   go_wp2
   go_ret
   exact ⟨rfl, HS.out.drewN _, gof (bdrew w _) _⟩
end Go.Proofs.YtionbmlicmibgaaGreatDoor
namespace Go.Proofs.YtionbmlicmibgaaGreatDoor
set_option linter.unusedVariables false
set_option linter.unusedSimpArgs false
open Go.RowKit
theorem By.chgR {w w' : World} {S : Nat → Prop} {v : Value} {l : List UInt8} (h : By w v l) (hc : Chg w w' S) (hne : l = [] ∨ ∀ k, v.ownBlock = some k → ¬ S k) : By w' v l := by
 obtain ⟨p, c, e, h1, h2, h3, h4⟩ := h
 refine ⟨p, c, e, h1, h2, h3, fun a ha i x hx => ?_⟩
 refine hc.cell (h4 a ha i x hx) ?_
 subst e
 rcases hne with rfl | hne
 ·simp at hx
 ·rw [block_add]
  exact hne _ (by rw [ha]; rfl)
theorem Own.byFar' {B : Nat} {A : Nat → Prop} {w w' : World} {v : Value} {l : List UInt8} (h : Own B w v l) (hc : Chg w w' A) (hA : ∀ k, A k → k < B) : By w' v l := by
 refine h.by_.chgR hc ?_
 rcases h with ⟨rfl, rfl⟩ | ⟨g, cap, rfl, hB, _⟩
 ·exact .inl rfl
 ·refine .inr fun k hk e => ?_
  have : g = k := by simpa [Value.ownBlock] using hk
  have := hA k e
  omega
structure RgSt (w W : World) (r g b : Nat) (v : Value) (l : List UInt8) (st : Nat × Nat) (k se sq a : Int) (vs vv : Value) : Prop where
 rr : RowC W r 0 0 0 0 (.slice none 0 0) (.slice none 0 0)
 sc : Sr W g v st.1 st.2
 cc : RowC W b k se sq a vs vv
 by_ : By W v l
 ne : l = [] ∨ ∀ k, v.ownBlock = some k → k < w.heap.size
 at_ : st.1 ≤ l.length
 lo : w.heap.size ≤ r ∧ r < g ∧ g < b
 bel : Below w.heap.size w W
section
variable {w W W' : World} {r g b : Nat} {v : Value} {l : List UInt8} {st st' : Nat × Nat} {k se sq a k' se' sq' a' : Int} {vs vv vs' vv' : Value}
theorem RgSt.below (h : RgSt w W r g b v l st k se sq a vs vv) (hb : Below W.heap.size W W') : RgSt w W' r g b v l st k se sq a vs vv :=
 ⟨h.rr.below hb, (hb.block g h.sc.lt).trans h.sc, h.cc.below hb, h.by_.below hb, h.ne, h.at_, h.lo, h.bel.trans (hb.mono h.bel.size)⟩
theorem RgSt.next (h : RgSt w W r g b v l st k se sq a vs vv) (hs : Sr W' g v st'.1 st'.2) (hg : W.grownBy W' (some g)) (ha : st'.1 ≤ l.length) : RgSt w W' r g b v l st' k se sq a vs vv := by
 have hl := h.lo
 refine ⟨h.rr.grown hg (fun e => by injection e with e; omega), hs, h.cc.grown hg (fun e => by injection e with e; omega), h.by_.grown hg ?_, h.ne, ha, hl, Chg.to_below h.bel (Chg.of_grown hg (fun k => k = g) (fun k e => by injection e with e; exact .inl e.symm)) (fun k e => by omega)⟩
 rcases h.ne with e | e
 ·exact .inl e
 ·exact .inr fun k hk q => by injection q with q; have := e k hk; omega
theorem RgSt.put (h : RgSt w W r g b v l st k se sq a vs vv) (hr : RowC W' b k' se' sq' a' vs' vv') (hc : Chg W W' fun j => j = b) : RgSt w W' r g b v l st k' se' sq' a' vs' vv' := by
 have hl := h.lo
 refine ⟨h.rr.chg hc (fun e => by omega), (hc.block g h.sc.lt (fun e => by omega)).trans h.sc, hr, h.by_.chgR hc ?_, h.ne, h.at_, hl, Chg.to_below h.bel hc (fun k e => by omega)⟩
 rcases h.ne with e | e
 ·exact .inl e
 ·exact .inr fun k hk q => by have := e k hk; omega
end
theorem RgSt.num {w W : World} {r g b : Nat} {p : Option Addr} {n c : Nat} {l : List UInt8} {st : Nat × Nat} {k se sq a : Int} {vs vv : Value} (h : RgSt w W r g b (.slice p n c) l st k se sq a vs vv) :
  Calls Tryz.prog 70 #[.pointer (some ⟨g, 0, none⟩)] W fun e w' => e = .returned (.int .i64 ((nx l st).1 : Nat)) ∧ RgSt w w' r g b (.slice p n c) l (nx l st).2 k se sq a vs vv ∧ W.grownBy w' (some g) := by
 obtain ⟨x, E⟩ := st
 obtain ⟨N, A, E', hN⟩ : ∃ n a' e', nx l (x, E) = (n, a', e') := ⟨_, _, _, rfl⟩
 have ha := (nx_le (l := l) (st := (x, E)) h.at_).1
 have hn := h.by_.len.1
 refine (refScanNumber_any h.sc h.by_ (by have := h.at_; dsimp only at this ⊢; omega) (N := N) (A := A) (E := E') hN).mono fun e w' ⟨he, hs, hg⟩ => ?_
 rw [hN] at ha ⊢
 exact ⟨he, h.next hs hg ha, hg⟩
theorem RgSt.txt {w W : World} {r g b : Nat} {p : Option Addr} {n c : Nat} {l : List UInt8} {st : Nat × Nat} {k se sq a : Int} {vs vv : Value} (h : RgSt w W r g b (.slice p n c) l st k se sq a vs vv) :
  Calls Tryz.prog 72 #[.pointer (some ⟨g, 0, none⟩), .int .i64 4096] W fun e w' => e = .returned (.string (str (rdT l st).1)) ∧ RgSt w w' r g b (.slice p n c) l (rdT l st).2 k se sq a vs vv ∧ W.grownBy w' (some g) := by
 obtain ⟨x, E⟩ := st
 obtain ⟨N, A, E', hN⟩ : ∃ n a' e', tx l 4096 (x, E) = (n, a', e') := ⟨_, _, _, rfl⟩
 have ha := tx_le (l := l) (most := 4096) (st := (x, E)) h.at_
 have hn := h.by_.len.1
 have hl := h.lo
 unfold rdT
 refine (refScanText_any h.sc h.by_ (by
  rcases h.ne with e | e
  ·exact .inl e
  ·exact .inr fun k hk q => by injection q with q; have := e k hk; omega) (by have := h.at_; dsimp only at this ⊢; omega) 4096 4096 (by decide) (T := N) (A := A) (E := E') (tx_text.symm.trans hN)).mono fun e w' ⟨he, hs, hg⟩ => ?_
 rw [hN] at ha ⊢
 exact ⟨he, h.next hs hg ha, hg⟩
theorem ownS_chgO {B : Nat} {w w' : World} {S : Nat → Prop} {v : Value} {l : List Sp} (h : OwnS B w v l) (hc : Chg w w' S) (hS : ∀ k, S k → k < B) : OwnS B w' v l :=
 ownsRow_chgN h hc fun k hk e => by have h1 := (World.ownsRow.lt h k hk).1; have := hS k e; omega
theorem ownN_chgO {B : Nat} {w w' : World} {S : Nat → Prop} {v : Value} {l : List Int} (h : OwnN B w v l) (hc : Chg w w' S) (hS : ∀ k, S k → k < B) : OwnN B w' v l :=
 ⟨ownsRow_chgN h.1 hc fun k hk e => by have h1 := (World.ownsRow.lt h.1 k hk).1; have := hS k e; omega, h.2⟩
theorem RgSt.late {w W W' : World} {r g b B : Nat} {v : Value} {l : List UInt8} {st : Nat × Nat} {k se sq a : Int} {vs vv : Value} (h : RgSt w W r g b v l st k se sq a vs vv) (hb : Below B W W') (hB : b < B) (hw : B ≤ W.heap.size) : RgSt w W' r g b v l st k se sq a vs vv := by
 have hl := h.lo
 have hbel : Below w.heap.size W W' := hb.mono (by omega)
 refine ⟨(hb.block r (by omega)).trans h.rr, (hb.block g (by omega)).trans h.sc, (hb.block b hB).trans h.cc, h.by_.chgM hbel h.ne, h.ne, h.at_, hl, h.bel.trans hbel⟩
theorem step_pushesN {V : World} {ops : Array Oper} {o : Oper} {a : Act} {K : Act → World → Prop} {Q : Exit → Act → World → Prop} {E : Prop} (hgd : o.guard = none) (s x : Operand)
  (ho : o.op = .call { callee := .builtin .append, args := #[s, x], argTypes := #[23, 23] }) (hty : o.type = 23) {B : Nat} {v u : Value} {l m : List Int}
  (hs : a.eval s = v) (hx : a.eval x = u) (h : OwnN B V v l) (hu : Ns V u m) (hB : B ≤ V.heap.size) (hn : (l.length + m.length) * 8 ≤ 140737488355328)
  (hK : ∀ v' V', OwnN B V' v' (l ++ m) → Below B V V' → V.grownBy V' v.ownBlock → K (a.put o.dst v') V') : if Region.wanted o (yielded ops a.tmps) = true then Oper.wp Tryz.prog o a V K Q else E := by
 obtain ⟨v', w', hr, h1, h2, h3⟩ := run_pushesN h hu hB hn
 have hw : Region.wanted o (yielded ops a.tmps) = true := by simp [Region.wanted, hgd]
 rw [if_pos hw]
 exact Lib.wp_append_run_sl V s x 23 ho v u hs hx (by rw [hty]; exact hr) (hK v' w' h1 h2 h3)
set_option maxRecDepth 200000 in
set_option maxHeartbeats 16000000 in
theorem rgetO_any {w : World} {p : Option Addr} {n c : Nat} {l : List UInt8} (hv : By w (.slice p n c) l) (hl : l.length ≤ 65536) (h2 : (nx l (0, 0)).1 ≠ 2) (h3 : (nx l (0, 0)).1 ≠ 3) (h4 : (nx l (0, 0)).1 ≠ 4) (h5 : (nx l (0, 0)).1 ≠ 5) : Calls Tryz.prog 26 #[.slice p n c] w (GetP w (getC l)) := by
 have hG : getC l = finR l (some (⟨((nx l (0, 0)).1 : Nat), 0, 0, 0, [], []⟩, (nx l (0, 0)).2)) := by
  rw [getC_rdR]
  unfold rdR
  rw [if_neg h2, if_neg (by omega), if_neg h5]
 have hb0 : ∀ k, (Value.slice p n c).ownBlock = some k → l ≠ [] → k < w.heap.size := fun k hk hne => by
  rcases hv.ltM with e | e
  ·exact absurd e hne
  ·exact e k hk
 have hne0 : l = [] ∨ ∀ k, (Value.slice p n c).ownBlock = some k → k < w.heap.size := hv.ltM
 have b1 := (Below.refl w.heap.size w).alloc (Nat.le_refl _) (.cells #[.int .i64 0, .int .i64 0, .int .i64 0, .int .i64 0, .slice none 0 0, .slice none 0 0] 25)
 have b2 := b1.alloc (o := (.cells #[.slice p n c, .int .i64 0, .int .i64 0] 121)) b1.size
 have b3 := b2.alloc (o := (.cells #[.int .i64 0, .int .i64 0, .int .i64 0, .int .i64 0, .slice none 0 0, .slice none 0 0] 25)) b2.size
 have hX0 : (((w.alloc (.cells #[.int .i64 0, .int .i64 0, .int .i64 0, .int .i64 0, .slice none 0 0, .slice none 0 0] 25)).alloc (.cells #[.slice p n c, .int .i64 0, .int .i64 0] 121)).alloc (.cells #[.int .i64 0, .int .i64 0, .int .i64 0, .int .i64 0, .slice none 0 0, .slice none 0 0] 25)).heap.size = w.heap.size + 3 := by simp
 have hs1 : (w.alloc (.cells #[.int .i64 0, .int .i64 0, .int .i64 0, .int .i64 0, .slice none 0 0, .slice none 0 0] 25)).heap.size = w.heap.size + 1 := by simp
 have hs2 : ((w.alloc (.cells #[.int .i64 0, .int .i64 0, .int .i64 0, .int .i64 0, .slice none 0 0, .slice none 0 0] 25)).alloc (.cells #[.slice p n c, .int .i64 0, .int .i64 0] 121)).heap.size = w.heap.size + 2 := by simp
 have r1 : RowC (((w.alloc (.cells #[.int .i64 0, .int .i64 0, .int .i64 0, .int .i64 0, .slice none 0 0, .slice none 0 0] 25)).alloc (.cells #[.slice p n c, .int .i64 0, .int .i64 0] 121)).alloc (.cells #[.int .i64 0, .int .i64 0, .int .i64 0, .int .i64 0, .slice none 0 0, .slice none 0 0] 25)) w.heap.size 0 0 0 0 (.slice none 0 0) (.slice none 0 0) := ((RowC.new (k := 0) (se := 0) (sq := 0) (a := 0) (vs := .slice none 0 0) (vv := .slice none 0 0) w).below ((Below.refl _ _).alloc (Nat.le_refl _) (.cells #[.slice p n c, .int .i64 0, .int .i64 0] 121))).below ((Below.refl _ _).alloc (Nat.le_refl _) (.cells #[.int .i64 0, .int .i64 0, .int .i64 0, .int .i64 0, .slice none 0 0, .slice none 0 0] 25))
 have r2 : Sr (((w.alloc (.cells #[.int .i64 0, .int .i64 0, .int .i64 0, .int .i64 0, .slice none 0 0, .slice none 0 0] 25)).alloc (.cells #[.slice p n c, .int .i64 0, .int .i64 0] 121)).alloc (.cells #[.int .i64 0, .int .i64 0, .int .i64 0, .int .i64 0, .slice none 0 0, .slice none 0 0] 25)) (w.heap.size + 1) (.slice p n c) 0 0 := by
  have h1 : Sr ((w.alloc (.cells #[.int .i64 0, .int .i64 0, .int .i64 0, .int .i64 0, .slice none 0 0, .slice none 0 0] 25)).alloc (.cells #[.slice p n c, .int .i64 0, .int .i64 0] 121)) (w.heap.size + 1) (.slice p n c) 0 0 := by rw [← hs1]; exact heap_alloc_new (w.alloc (.cells #[.int .i64 0, .int .i64 0, .int .i64 0, .int .i64 0, .slice none 0 0, .slice none 0 0] 25)) (.cells #[.slice p n c, .int .i64 0, .int .i64 0] 121)
  exact (((Below.refl _ _).alloc (Nat.le_refl _) (.cells #[.int .i64 0, .int .i64 0, .int .i64 0, .int .i64 0, .slice none 0 0, .slice none 0 0] 25)).block _ h1.lt).trans h1
 have r3 : RowC (((w.alloc (.cells #[.int .i64 0, .int .i64 0, .int .i64 0, .int .i64 0, .slice none 0 0, .slice none 0 0] 25)).alloc (.cells #[.slice p n c, .int .i64 0, .int .i64 0] 121)).alloc (.cells #[.int .i64 0, .int .i64 0, .int .i64 0, .int .i64 0, .slice none 0 0, .slice none 0 0] 25)) (w.heap.size + 2) 0 0 0 0 (.slice none 0 0) (.slice none 0 0) := by rw [← hs2]; exact RowC.new _
 have hst0 : RgSt w (((w.alloc (.cells #[.int .i64 0, .int .i64 0, .int .i64 0, .int .i64 0, .slice none 0 0, .slice none 0 0] 25)).alloc (.cells #[.slice p n c, .int .i64 0, .int .i64 0] 121)).alloc (.cells #[.int .i64 0, .int .i64 0, .int .i64 0, .int .i64 0, .slice none 0 0, .slice none 0 0] 25)) w.heap.size (w.heap.size + 1) (w.heap.size + 2) (.slice p n c) l (0, 0) 0 0 0 0 (.slice none 0 0) (.slice none 0 0) := ⟨r1, r2, r3, hv.below b3, hne0, Nat.zero_le _, by omega, b3⟩
 have HS00 := hide hst0
 obtain ⟨K, hK⟩ : ∃ k, (nx l (0, 0)).1 = k := ⟨_, rfl⟩
 obtain ⟨s1, hs1'⟩ : ∃ s, (nx l (0, 0)).2 = s := ⟨_, rfl⟩
 have hKl := (nx_le (l := l) (st := (0, 0)) (Nat.zero_le _)).2
 rw [hK] at hKl
 have HKS := hide (And.intro hK hs1')
 have HLL := hide hl
 rw [hK, hs1'] at hG
 obtain ⟨A, E⟩ := s1
 have HG := hide hG
 rw [hK] at h2 h3 h4 h5
 have e2 : ((K : Int) == 2) = false := by simpa using (show ¬ (K : Int) = 2 by omega)
 have e3 : ((K : Int) == 3) = false := by simpa using (show ¬ (K : Int) = 3 by omega)
 have e4 : ((K : Int) == 4) = false := by simpa using (show ¬ (K : Int) = 4 by omega)
 have e5 : ((K : Int) == 5) = false := by simpa using (show ¬ (K : Int) = 5 by omega)
 clear hG hK hs1' h2 h3 h4 h5
 clear hst0 b1 b2 b3 r1 r2 r3 hb0 hne0 hX0 hs1 hs2 hv hl
 go_enter Tryz.func26, Tryz.ntmps26
 go_upto_region 3 with fail
 obtain ⟨X, hX⟩ : ∃ X, ((w.alloc (.cells #[.int .i64 0, .int .i64 0, .int .i64 0, .int .i64 0, .slice none 0 0, .slice none 0 0] 25)).alloc (.cells #[.slice p n c, .int .i64 0, .int .i64 0] 121)).alloc (.cells #[.int .i64 0, .int .i64 0, .int .i64 0, .int .i64 0, .slice none 0 0, .slice none 0 0] 25) = X := ⟨_, rfl⟩
 obtain ⟨r, hr⟩ : ∃ r, w.heap.size = r := ⟨_, rfl⟩
 obtain ⟨g, hg⟩ : ∃ g, r + 1 = g := ⟨_, rfl⟩
 obtain ⟨b, hb⟩ : ∃ b, g + 1 = b := ⟨_, rfl⟩
 have hb2 : r + 2 = b := by omega
 have HS0 := hide HS00.out
 rw [hX, hr, hg, hb2] at HS0
 rw [hX, hr, hg, hb]
 have N1 := hide HS0.out.num
 rw [HKS.out.1, HKS.out.2] at N1
 clear hX hr hg hb hb2 HS00
 obtain ⟨z0, z1, z2, z3, z4, z5⟩ := HS0.out.cc.box
 have fb0 := HS0.out.cc.fr 0
 go_wp2_with fail
 refine N1.out.mono ?_
 rintro e w1 ⟨rfl, h1, hgr⟩
 have HS1 := hide h1
 clear h1 hgr N1 z0 z1 z2 z3 z4 z5 fb0
 obtain ⟨z0, z1, z2, z3, z4, z5⟩ := HS1.out.cc.box
 have fb0 := HS1.out.cc.fr 0
 go_upto_region 4 with fail
 have hst := HS1.out.cc.set0 (K : Nat)
 have hcs := chg_set w1 b 0 (.int .i64 (K : Nat))
 obtain ⟨w2, hWw2⟩ : ∃ X, w1.setCell ⟨b, 0, none⟩ (.int .i64 (K : Nat)) = X := ⟨_, rfl⟩
 rw [hWw2] at hst hcs ⊢
 have HS := hide (HS1.out.put hst hcs)
 clear hst hcs hWw2 z0 z1 z2 z3 z4 z5
 try clear fb0
 try clear fb1
 try clear fb2
 try clear fb3
 try clear fb4
 obtain ⟨z0, z1, z2, z3, z4, z5⟩ := HS.out.cc.box
 have HO : Hid (OwnS (b + 1) w2 (.slice none 0 0) [] ∧ OwnN (b + 1) w2 (.slice none 0 0) [] ∧ ∀ x ∈ ([] : List Sp), x.n.size ≤ 1100000) := hide ⟨OwnS.nil _ _, OwnN.nil _ _, fun x hx => by cases hx⟩
 have HCM : Hid (CmAt w2 (.slice none 0 0) (.slice none 0 0) ⟨((K : Nat) : Int), 0, 0, 0, [], []⟩) := hide ⟨HO.out.1.sps, HO.out.2.1.ns, HO.out.2.2⟩
 have HMP := hide (rput_any HCM.out)
 unfold cmV at HMP
 dsimp only at HMP
 obtain ⟨XB, hXB⟩ : ∃ xb, Cm.bytes ⟨((K : Nat) : Int), 0, 0, 0, [], []⟩ = xb := ⟨_, rfl⟩
 have HXB := hide hXB
 clear hXB
 go_wp2_with fail
 refine HMP.out.mono ?_
 intro e w7 hp7
 rcases hp7 with ⟨hok, p7, n7, c7, rfl, ho7, hb7⟩ | ⟨hno, rfl, hb7⟩
 case inr =>
  have HS7 := hide (HS.out.below hb7)
  have HOK := hide hno
  clear hno hb7 HMP z0 z1 z2 z3 z4 z5
  have HNO : Hid (getC l = none) := hide (by rw [HG.out]; unfold finR; dsimp only; rw [if_neg (fun h => by rw [HOK.out] at h; cases h.1)])
  obtain ⟨y0, y1, y2, y3, y4, y5⟩ := HS7.out.rr.box
  have fr0 := HS7.out.rr.fr 0
  have fr1 := HS7.out.rr.fr 1
  have fr2 := HS7.out.rr.fr 2
  have fr3 := HS7.out.rr.fr 3
  have fr4 := HS7.out.rr.fr 4
  have fr5 := HS7.out.rr.fr 5
  go_wp2_with fail
  have hst := setC_row HS7.out.rr 0 0 0 0 (.slice none 0 0) (.slice none 0 0)
  have hcs := setC_chg w7 r 0 0 0 0 (.slice none 0 0) (.slice none 0 0)
  unfold setC at hst hcs
  have hcb := Chg.to_below HS7.out.bel hcs (fun k e => by have := HS7.out.lo; omega)
  refine bodyPost_ret (v := .tuple #[.agg #[.int .i64 0, .int .i64 0, .int .i64 0, .int .i64 0, .slice none 0 0, .slice none 0 0], .int .i64 90]) (by
    generalize (((((w7.setCell ⟨r, 0, none⟩ (.int .i64 0)).setCell ⟨r, 1, none⟩ (.int .i64 0)).setCell ⟨r, 2, none⟩ (.int .i64 0)).setCell ⟨r, 3, none⟩ (.int .i64 0)).setCell ⟨r, 4, none⟩ (.slice none 0 0)).setCell ⟨r, 5, none⟩ (.slice none 0 0) = V9 at hst ⊢
    obtain ⟨m0, m1, m2, m3, m4, m5⟩ := hst.box
    simp [results, Tryz.results26, go_sem, m0, m1, m2, m3, m4, m5]) rfl ?_
  rw [HNO.out]
  exact ⟨rfl, hcb⟩
 have HS7 := hide (HS.out.below hb7)
 have HO7 := hide (And.intro (HO.out.1.below hb7) (HO.out.2.1.below hb7))
 have HOK := hide hok
 rw [HXB.out] at ho7
 have HBY := hide ho7
 have HWL : Hid (g < w2.heap.size) := hide HS.out.sc.lt
 have HEND := hide (rend_any HS7.out.sc)
 have HN7 : Hid (n = l.length) := hide HS7.out.by_.len.1
 obtain ⟨EE, hEE⟩ : ∃ x, endX n A E = x := ⟨_, rfl⟩
 rw [hEE] at HEND
 have HEE := hide hEE
 clear hok hb7 ho7 HMP z0 z1 z2 z3 z4 z5 hEE
 go_wp2_with fail
 refine HEND.out.mono ?_
 rintro e w8 ⟨rfl, hs8, hg8⟩
 have HS8 : Hid (RgSt w w8 r g b (.slice p n c) l (A, EE) (((K : Nat) : Int)) (0) (0) (0) (.slice none 0 0) (.slice none 0 0)) := hide (HS7.out.next (st' := (A, EE)) hs8 hg8 HS7.out.at_)
 have hc8 := Chg.of_grown hg8 (fun k => k = g) (fun k e => by injection e with e; exact .inl e.symm)
 have HO8 := hide (And.intro (ownS_chgO HO7.out.1 hc8 (fun k e => by have := HS7.out.lo; omega)) (ownN_chgO HO7.out.2 hc8 (fun k e => by have := HS7.out.lo; omega)))
 have HBY8 : Hid (By w8 (.slice p7 n7 c7) XB) := hide (HBY.out.byFar' hc8 (fun k e => by have := HWL.out; omega))
 clear hs8 hg8 hc8 HEND
 by_cases hz : EE = 0
 case neg =>
  have e1 : ((EE : Int) != 0) = true := by simpa using hz
  have HZ := hide hz
  clear hz
  have HNO : Hid (getC l = none) := hide (by
     rw [HG.out]; unfold finR; dsimp only
     refine if_neg fun h => HZ.out ?_
     rw [← HEE.out]; unfold endX
     rw [if_neg (fun q => by have := HN7.out; omega)]; exact h.2.1)
  obtain ⟨y0, y1, y2, y3, y4, y5⟩ := HS8.out.rr.box
  have fr0 := HS8.out.rr.fr 0
  have fr1 := HS8.out.rr.fr 1
  have fr2 := HS8.out.rr.fr 2
  have fr3 := HS8.out.rr.fr 3
  have fr4 := HS8.out.rr.fr 4
  have fr5 := HS8.out.rr.fr 5
  go_wp2_with fail
  have hst := setC_row HS8.out.rr 0 0 0 0 (.slice none 0 0) (.slice none 0 0)
  have hcs := setC_chg w8 r 0 0 0 0 (.slice none 0 0) (.slice none 0 0)
  unfold setC at hst hcs
  have hcb := Chg.to_below HS8.out.bel hcs (fun k e => by have := HS8.out.lo; omega)
  refine bodyPost_ret (v := .tuple #[.agg #[.int .i64 0, .int .i64 0, .int .i64 0, .int .i64 0, .slice none 0 0, .slice none 0 0], .int .i64 90]) (by
    generalize (((((w8.setCell ⟨r, 0, none⟩ (.int .i64 0)).setCell ⟨r, 1, none⟩ (.int .i64 0)).setCell ⟨r, 2, none⟩ (.int .i64 0)).setCell ⟨r, 3, none⟩ (.int .i64 0)).setCell ⟨r, 4, none⟩ (.slice none 0 0)).setCell ⟨r, 5, none⟩ (.slice none 0 0) = V9 at hst ⊢
    obtain ⟨m0, m1, m2, m3, m4, m5⟩ := hst.box
    simp [results, Tryz.results26, go_sem, m0, m1, m2, m3, m4, m5]) rfl ?_
  rw [HNO.out]
  exact ⟨rfl, hcb⟩
 have e1 : ((EE : Int) != 0) = false := by simpa using hz
 have HZ : Hid (E = 0 ∧ A = l.length) := hide (by
  have h1 := HEE.out
  rw [hz] at h1
  unfold endX at h1
  have h3 := HN7.out
  have h4 := HS8.out.at_
  dsimp only at h4
  split at h1
  ·omega
  ·omega)
 clear hz
 have d0 := conv_at HBY8.out
 have d1 := conv_at HS8.out.by_
 by_cases hq : XB = l
 case neg =>
  have heq : ((str XB).toList == (str l).toList) = false := by rw [str_beq]; exact decide_eq_false hq
  have HQ := hide hq
  clear hq
  have HNO : Hid (getC l = none) := hide (by rw [HG.out]; unfold finR; dsimp only; rw [HXB.out]; exact if_neg fun h => HQ.out h.2.2.2)
  obtain ⟨y0, y1, y2, y3, y4, y5⟩ := HS8.out.rr.box
  have fr0 := HS8.out.rr.fr 0
  have fr1 := HS8.out.rr.fr 1
  have fr2 := HS8.out.rr.fr 2
  have fr3 := HS8.out.rr.fr 3
  have fr4 := HS8.out.rr.fr 4
  have fr5 := HS8.out.rr.fr 5
  go_wp2_with fail
  have hst := setC_row HS8.out.rr 0 0 0 0 (.slice none 0 0) (.slice none 0 0)
  have hcs := setC_chg w8 r 0 0 0 0 (.slice none 0 0) (.slice none 0 0)
  unfold setC at hst hcs
  have hcb := Chg.to_below HS8.out.bel hcs (fun k e => by have := HS8.out.lo; omega)
  refine bodyPost_ret (v := .tuple #[.agg #[.int .i64 0, .int .i64 0, .int .i64 0, .int .i64 0, .slice none 0 0, .slice none 0 0], .int .i64 90]) (by
    generalize (((((w8.setCell ⟨r, 0, none⟩ (.int .i64 0)).setCell ⟨r, 1, none⟩ (.int .i64 0)).setCell ⟨r, 2, none⟩ (.int .i64 0)).setCell ⟨r, 3, none⟩ (.int .i64 0)).setCell ⟨r, 4, none⟩ (.slice none 0 0)).setCell ⟨r, 5, none⟩ (.slice none 0 0) = V9 at hst ⊢
    obtain ⟨m0, m1, m2, m3, m4, m5⟩ := hst.box
    simp [results, Tryz.results26, go_sem, m0, m1, m2, m3, m4, m5]) rfl ?_
  rw [HNO.out]
  exact ⟨rfl, hcb⟩
 have heq : ((str XB).toList == (str l).toList) = true := by rw [str_beq]; exact decide_eq_true hq
 have HYES : Hid (getC l = some ⟨((K : Nat) : Int), 0, 0, 0, [], []⟩) := hide (by rw [HG.out]; unfold finR; dsimp only; rw [HXB.out]; exact if_pos ⟨HOK.out, HZ.out.1, HZ.out.2, hq⟩)
 clear hq
 obtain ⟨y0, y1, y2, y3, y4, y5⟩ := HS8.out.rr.box
 obtain ⟨z0, z1, z2, z3, z4, z5⟩ := HS8.out.cc.box
 have fr0 := HS8.out.rr.fr 0
 have fr1 := HS8.out.rr.fr 1
 have fr2 := HS8.out.rr.fr 2
 have fr3 := HS8.out.rr.fr 3
 have fr4 := HS8.out.rr.fr 4
 have fr5 := HS8.out.rr.fr 5
 go_wp2_with fail
 have hst := setC_row HS8.out.rr (((K : Nat) : Int)) (0) (0) (0) (.slice none 0 0) (.slice none 0 0)
 have hcs := setC_chg w8 r (((K : Nat) : Int)) (0) (0) (0) (.slice none 0 0) (.slice none 0 0)
 unfold setC at hst hcs
 have hcb := Chg.to_below HS8.out.bel hcs (fun k e => by have := HS8.out.lo; omega)
 have ho9 := And.intro (ownS_chgO HO8.out.1 hcs (fun k e => by have := HS8.out.lo; omega)) (ownN_chgO HO8.out.2 hcs (fun k e => by have := HS8.out.lo; omega))
 refine bodyPost_ret (v := .tuple #[.agg #[.int .i64 (((K : Nat) : Int)), .int .i64 (0), .int .i64 (0), .int .i64 (0), .slice none 0 0, .slice none 0 0], .int .i64 0]) (by
   generalize (((((w8.setCell ⟨r, 0, none⟩ (.int .i64 ((K : Nat) : Int))).setCell ⟨r, 1, none⟩ (.int .i64 0)).setCell ⟨r, 2, none⟩ (.int .i64 0)).setCell ⟨r, 3, none⟩ (.int .i64 0)).setCell ⟨r, 4, none⟩ (.slice none 0 0)).setCell ⟨r, 5, none⟩ (.slice none 0 0) = V9 at hst ⊢
   obtain ⟨m0, m1, m2, m3, m4, m5⟩ := hst.box
   simp [results, Tryz.results26, go_sem, m0, m1, m2, m3, m4, m5]) rfl ?_
 rw [HYES.out]
 have hlo := HS8.out.lo
 exact ⟨_, _, _, _, _, _, rfl, OwnS.mono ho9.1 (by omega), OwnN.mono ho9.2 (by omega), hcb⟩
set_option maxRecDepth 200000 in
set_option maxHeartbeats 16000000 in
theorem rget3_any {w : World} {p : Option Addr} {n c : Nat} {l : List UInt8} (hv : By w (.slice p n c) l) (hl : l.length ≤ 65536) (h2 : (nx l (0, 0)).1 = 3) : Calls Tryz.prog 26 #[.slice p n c] w (GetP w (getC l)) := by
 have hG : getC l = finR l (some (⟨((nx l (0, 0)).1 : Nat), 0, 0, (nx l (nx l (0, 0)).2).1, [], []⟩, (nx l (nx l (0, 0)).2).2)) := by
  rw [getC_rdR]
  unfold rdR
  rw [if_neg (by omega), if_pos (by omega)]
 have hb0 : ∀ k, (Value.slice p n c).ownBlock = some k → l ≠ [] → k < w.heap.size := fun k hk hne => by
  rcases hv.ltM with e | e
  ·exact absurd e hne
  ·exact e k hk
 have hne0 : l = [] ∨ ∀ k, (Value.slice p n c).ownBlock = some k → k < w.heap.size := hv.ltM
 have b1 := (Below.refl w.heap.size w).alloc (Nat.le_refl _) (.cells #[.int .i64 0, .int .i64 0, .int .i64 0, .int .i64 0, .slice none 0 0, .slice none 0 0] 25)
 have b2 := b1.alloc (o := (.cells #[.slice p n c, .int .i64 0, .int .i64 0] 121)) b1.size
 have b3 := b2.alloc (o := (.cells #[.int .i64 0, .int .i64 0, .int .i64 0, .int .i64 0, .slice none 0 0, .slice none 0 0] 25)) b2.size
 have hX0 : (((w.alloc (.cells #[.int .i64 0, .int .i64 0, .int .i64 0, .int .i64 0, .slice none 0 0, .slice none 0 0] 25)).alloc (.cells #[.slice p n c, .int .i64 0, .int .i64 0] 121)).alloc (.cells #[.int .i64 0, .int .i64 0, .int .i64 0, .int .i64 0, .slice none 0 0, .slice none 0 0] 25)).heap.size = w.heap.size + 3 := by simp
 have hs1 : (w.alloc (.cells #[.int .i64 0, .int .i64 0, .int .i64 0, .int .i64 0, .slice none 0 0, .slice none 0 0] 25)).heap.size = w.heap.size + 1 := by simp
 have hs2 : ((w.alloc (.cells #[.int .i64 0, .int .i64 0, .int .i64 0, .int .i64 0, .slice none 0 0, .slice none 0 0] 25)).alloc (.cells #[.slice p n c, .int .i64 0, .int .i64 0] 121)).heap.size = w.heap.size + 2 := by simp
 have r1 : RowC (((w.alloc (.cells #[.int .i64 0, .int .i64 0, .int .i64 0, .int .i64 0, .slice none 0 0, .slice none 0 0] 25)).alloc (.cells #[.slice p n c, .int .i64 0, .int .i64 0] 121)).alloc (.cells #[.int .i64 0, .int .i64 0, .int .i64 0, .int .i64 0, .slice none 0 0, .slice none 0 0] 25)) w.heap.size 0 0 0 0 (.slice none 0 0) (.slice none 0 0) := ((RowC.new (k := 0) (se := 0) (sq := 0) (a := 0) (vs := .slice none 0 0) (vv := .slice none 0 0) w).below ((Below.refl _ _).alloc (Nat.le_refl _) (.cells #[.slice p n c, .int .i64 0, .int .i64 0] 121))).below ((Below.refl _ _).alloc (Nat.le_refl _) (.cells #[.int .i64 0, .int .i64 0, .int .i64 0, .int .i64 0, .slice none 0 0, .slice none 0 0] 25))
 have r2 : Sr (((w.alloc (.cells #[.int .i64 0, .int .i64 0, .int .i64 0, .int .i64 0, .slice none 0 0, .slice none 0 0] 25)).alloc (.cells #[.slice p n c, .int .i64 0, .int .i64 0] 121)).alloc (.cells #[.int .i64 0, .int .i64 0, .int .i64 0, .int .i64 0, .slice none 0 0, .slice none 0 0] 25)) (w.heap.size + 1) (.slice p n c) 0 0 := by
  have h1 : Sr ((w.alloc (.cells #[.int .i64 0, .int .i64 0, .int .i64 0, .int .i64 0, .slice none 0 0, .slice none 0 0] 25)).alloc (.cells #[.slice p n c, .int .i64 0, .int .i64 0] 121)) (w.heap.size + 1) (.slice p n c) 0 0 := by rw [← hs1]; exact heap_alloc_new (w.alloc (.cells #[.int .i64 0, .int .i64 0, .int .i64 0, .int .i64 0, .slice none 0 0, .slice none 0 0] 25)) (.cells #[.slice p n c, .int .i64 0, .int .i64 0] 121)
  exact (((Below.refl _ _).alloc (Nat.le_refl _) (.cells #[.int .i64 0, .int .i64 0, .int .i64 0, .int .i64 0, .slice none 0 0, .slice none 0 0] 25)).block _ h1.lt).trans h1
 have r3 : RowC (((w.alloc (.cells #[.int .i64 0, .int .i64 0, .int .i64 0, .int .i64 0, .slice none 0 0, .slice none 0 0] 25)).alloc (.cells #[.slice p n c, .int .i64 0, .int .i64 0] 121)).alloc (.cells #[.int .i64 0, .int .i64 0, .int .i64 0, .int .i64 0, .slice none 0 0, .slice none 0 0] 25)) (w.heap.size + 2) 0 0 0 0 (.slice none 0 0) (.slice none 0 0) := by rw [← hs2]; exact RowC.new _
 have hst0 : RgSt w (((w.alloc (.cells #[.int .i64 0, .int .i64 0, .int .i64 0, .int .i64 0, .slice none 0 0, .slice none 0 0] 25)).alloc (.cells #[.slice p n c, .int .i64 0, .int .i64 0] 121)).alloc (.cells #[.int .i64 0, .int .i64 0, .int .i64 0, .int .i64 0, .slice none 0 0, .slice none 0 0] 25)) w.heap.size (w.heap.size + 1) (w.heap.size + 2) (.slice p n c) l (0, 0) 0 0 0 0 (.slice none 0 0) (.slice none 0 0) := ⟨r1, r2, r3, hv.below b3, hne0, Nat.zero_le _, by omega, b3⟩
 have HS00 := hide hst0
 obtain ⟨K, hK⟩ : ∃ k, (nx l (0, 0)).1 = k := ⟨_, rfl⟩
 obtain ⟨s1, hs1'⟩ : ∃ s, (nx l (0, 0)).2 = s := ⟨_, rfl⟩
 have hKl := (nx_le (l := l) (st := (0, 0)) (Nat.zero_le _)).2
 rw [hK] at hKl
 have HKS := hide (And.intro hK hs1')
 have HLL := hide hl
 rw [hK, hs1'] at hG
 obtain ⟨x, hx⟩ : ∃ x, (nx l s1).1 = x := ⟨_, rfl⟩
 obtain ⟨s2, hs2⟩ : ∃ x, (nx l s1).2 = x := ⟨_, rfl⟩
 have HXS := hide (And.intro hx hs2)
 rw [hx, hs2] at hG
 obtain ⟨A, E⟩ := s2
 have HG := hide hG
 rw [hK] at h2
 have e2 : ((K : Int) == 2) = false := by simpa using (show ¬ (K : Int) = 2 by omega)
 have e3 : ((K : Int) == 3) = true := by simpa using (show (K : Int) = 3 by omega)
 have e4 : ((K : Int) == 4) = false := by simpa using (show ¬ (K : Int) = 4 by omega)
 have e5 : ((K : Int) == 5) = false := by simpa using (show ¬ (K : Int) = 5 by omega)
 clear hG hK hs1' h2 hx hs2
 clear hst0 b1 b2 b3 r1 r2 r3 hb0 hne0 hX0 hs1 hs2 hv hl
 go_enter Tryz.func26, Tryz.ntmps26
 go_upto_region 3 with fail
 obtain ⟨X, hX⟩ : ∃ X, ((w.alloc (.cells #[.int .i64 0, .int .i64 0, .int .i64 0, .int .i64 0, .slice none 0 0, .slice none 0 0] 25)).alloc (.cells #[.slice p n c, .int .i64 0, .int .i64 0] 121)).alloc (.cells #[.int .i64 0, .int .i64 0, .int .i64 0, .int .i64 0, .slice none 0 0, .slice none 0 0] 25) = X := ⟨_, rfl⟩
 obtain ⟨r, hr⟩ : ∃ r, w.heap.size = r := ⟨_, rfl⟩
 obtain ⟨g, hg⟩ : ∃ g, r + 1 = g := ⟨_, rfl⟩
 obtain ⟨b, hb⟩ : ∃ b, g + 1 = b := ⟨_, rfl⟩
 have hb2 : r + 2 = b := by omega
 have HS0 := hide HS00.out
 rw [hX, hr, hg, hb2] at HS0
 rw [hX, hr, hg, hb]
 have N1 := hide HS0.out.num
 rw [HKS.out.1, HKS.out.2] at N1
 clear hX hr hg hb hb2 HS00
 obtain ⟨z0, z1, z2, z3, z4, z5⟩ := HS0.out.cc.box
 have fb0 := HS0.out.cc.fr 0
 go_wp2_with fail
 refine N1.out.mono ?_
 rintro e w1 ⟨rfl, h1, hgr⟩
 have HS1 := hide h1
 clear h1 hgr N1 z0 z1 z2 z3 z4 z5 fb0
 obtain ⟨z0, z1, z2, z3, z4, z5⟩ := HS1.out.cc.box
 have fb0 := HS1.out.cc.fr 0
 go_upto_region 4 with fail
 have hst := HS1.out.cc.set0 (K : Nat)
 have hcs := chg_set w1 b 0 (.int .i64 (K : Nat))
 obtain ⟨w2, hWw2⟩ : ∃ X, w1.setCell ⟨b, 0, none⟩ (.int .i64 (K : Nat)) = X := ⟨_, rfl⟩
 rw [hWw2] at hst hcs ⊢
 have HSa := hide (HS1.out.put hst hcs)
 clear hst hcs hWw2 z0 z1 z2 z3 z4 z5
 try clear fb0
 try clear fb1
 try clear fb2
 try clear fb3
 try clear fb4
 obtain ⟨z0, z1, z2, z3, z4, z5⟩ := HSa.out.cc.box
 have N2 := hide HSa.out.num
 rw [HXS.out.1, HXS.out.2] at N2
 go_wp2_with fail
 refine N2.out.mono ?_
 rintro e w3 ⟨rfl, h3, hg3⟩
 have HSb := hide h3
 clear h3 hg3 N2 z0 z1 z2 z3 z4 z5
 obtain ⟨z0, z1, z2, z3, z4, z5⟩ := HSb.out.cc.box
 have fb3 := HSb.out.cc.fr 3
 go_upto_region 13 with fail
 have hst := HSb.out.cc.set3 (x : Nat)
 have hcs := chg_set w3 b 3 (.int .i64 (x : Nat))
 obtain ⟨w4, hWw4⟩ : ∃ X, w3.setCell ⟨b, 3, none⟩ (.int .i64 (x : Nat)) = X := ⟨_, rfl⟩
 rw [hWw4] at hst hcs ⊢
 have HS := hide (HSb.out.put hst hcs)
 clear hst hcs hWw4 z0 z1 z2 z3 z4 z5
 try clear fb0
 try clear fb1
 try clear fb2
 try clear fb3
 try clear fb4
 obtain ⟨z0, z1, z2, z3, z4, z5⟩ := HS.out.cc.box
 have HO : Hid (OwnS (b + 1) w4 (.slice none 0 0) [] ∧ OwnN (b + 1) w4 (.slice none 0 0) [] ∧ ∀ x ∈ ([] : List Sp), x.n.size ≤ 1100000) := hide ⟨OwnS.nil _ _, OwnN.nil _ _, fun x hx => by cases hx⟩
 have HCM : Hid (CmAt w4 (.slice none 0 0) (.slice none 0 0) ⟨((K : Nat) : Int), 0, 0, ((x : Nat) : Int), [], []⟩) := hide ⟨HO.out.1.sps, HO.out.2.1.ns, HO.out.2.2⟩
 have HMP := hide (rput_any HCM.out)
 unfold cmV at HMP
 dsimp only at HMP
 obtain ⟨XB, hXB⟩ : ∃ xb, Cm.bytes ⟨((K : Nat) : Int), 0, 0, ((x : Nat) : Int), [], []⟩ = xb := ⟨_, rfl⟩
 have HXB := hide hXB
 clear hXB
 go_wp2_with fail
 refine HMP.out.mono ?_
 intro e w7 hp7
 rcases hp7 with ⟨hok, p7, n7, c7, rfl, ho7, hb7⟩ | ⟨hno, rfl, hb7⟩
 case inr =>
  have HS7 := hide (HS.out.below hb7)
  have HOK := hide hno
  clear hno hb7 HMP z0 z1 z2 z3 z4 z5
  have HNO : Hid (getC l = none) := hide (by rw [HG.out]; unfold finR; dsimp only; rw [if_neg (fun h => by rw [HOK.out] at h; cases h.1)])
  obtain ⟨y0, y1, y2, y3, y4, y5⟩ := HS7.out.rr.box
  have fr0 := HS7.out.rr.fr 0
  have fr1 := HS7.out.rr.fr 1
  have fr2 := HS7.out.rr.fr 2
  have fr3 := HS7.out.rr.fr 3
  have fr4 := HS7.out.rr.fr 4
  have fr5 := HS7.out.rr.fr 5
  go_wp2_with fail
  have hst := setC_row HS7.out.rr 0 0 0 0 (.slice none 0 0) (.slice none 0 0)
  have hcs := setC_chg w7 r 0 0 0 0 (.slice none 0 0) (.slice none 0 0)
  unfold setC at hst hcs
  have hcb := Chg.to_below HS7.out.bel hcs (fun k e => by have := HS7.out.lo; omega)
  refine bodyPost_ret (v := .tuple #[.agg #[.int .i64 0, .int .i64 0, .int .i64 0, .int .i64 0, .slice none 0 0, .slice none 0 0], .int .i64 90]) (by
    generalize (((((w7.setCell ⟨r, 0, none⟩ (.int .i64 0)).setCell ⟨r, 1, none⟩ (.int .i64 0)).setCell ⟨r, 2, none⟩ (.int .i64 0)).setCell ⟨r, 3, none⟩ (.int .i64 0)).setCell ⟨r, 4, none⟩ (.slice none 0 0)).setCell ⟨r, 5, none⟩ (.slice none 0 0) = V9 at hst ⊢
    obtain ⟨m0, m1, m2, m3, m4, m5⟩ := hst.box
    simp [results, Tryz.results26, go_sem, m0, m1, m2, m3, m4, m5]) rfl ?_
  rw [HNO.out]
  exact ⟨rfl, hcb⟩
 have HS7 := hide (HS.out.below hb7)
 have HO7 := hide (And.intro (HO.out.1.below hb7) (HO.out.2.1.below hb7))
 have HOK := hide hok
 rw [HXB.out] at ho7
 have HBY := hide ho7
 have HWL : Hid (g < w4.heap.size) := hide HS.out.sc.lt
 have HEND := hide (rend_any HS7.out.sc)
 have HN7 : Hid (n = l.length) := hide HS7.out.by_.len.1
 obtain ⟨EE, hEE⟩ : ∃ x, endX n A E = x := ⟨_, rfl⟩
 rw [hEE] at HEND
 have HEE := hide hEE
 clear hok hb7 ho7 HMP z0 z1 z2 z3 z4 z5 hEE
 go_wp2_with fail
 refine HEND.out.mono ?_
 rintro e w8 ⟨rfl, hs8, hg8⟩
 have HS8 : Hid (RgSt w w8 r g b (.slice p n c) l (A, EE) (((K : Nat) : Int)) (0) (0) (((x : Nat) : Int)) (.slice none 0 0) (.slice none 0 0)) := hide (HS7.out.next (st' := (A, EE)) hs8 hg8 HS7.out.at_)
 have hc8 := Chg.of_grown hg8 (fun k => k = g) (fun k e => by injection e with e; exact .inl e.symm)
 have HO8 := hide (And.intro (ownS_chgO HO7.out.1 hc8 (fun k e => by have := HS7.out.lo; omega)) (ownN_chgO HO7.out.2 hc8 (fun k e => by have := HS7.out.lo; omega)))
 have HBY8 : Hid (By w8 (.slice p7 n7 c7) XB) := hide (HBY.out.byFar' hc8 (fun k e => by have := HWL.out; omega))
 clear hs8 hg8 hc8 HEND
 by_cases hz : EE = 0
 case neg =>
  have e1 : ((EE : Int) != 0) = true := by simpa using hz
  have HZ := hide hz
  clear hz
  have HNO : Hid (getC l = none) := hide (by
     rw [HG.out]; unfold finR; dsimp only
     refine if_neg fun h => HZ.out ?_
     rw [← HEE.out]; unfold endX
     rw [if_neg (fun q => by have := HN7.out; omega)]; exact h.2.1)
  obtain ⟨y0, y1, y2, y3, y4, y5⟩ := HS8.out.rr.box
  have fr0 := HS8.out.rr.fr 0
  have fr1 := HS8.out.rr.fr 1
  have fr2 := HS8.out.rr.fr 2
  have fr3 := HS8.out.rr.fr 3
  have fr4 := HS8.out.rr.fr 4
  have fr5 := HS8.out.rr.fr 5
  go_wp2_with fail
  have hst := setC_row HS8.out.rr 0 0 0 0 (.slice none 0 0) (.slice none 0 0)
  have hcs := setC_chg w8 r 0 0 0 0 (.slice none 0 0) (.slice none 0 0)
  unfold setC at hst hcs
  have hcb := Chg.to_below HS8.out.bel hcs (fun k e => by have := HS8.out.lo; omega)
  refine bodyPost_ret (v := .tuple #[.agg #[.int .i64 0, .int .i64 0, .int .i64 0, .int .i64 0, .slice none 0 0, .slice none 0 0], .int .i64 90]) (by
    generalize (((((w8.setCell ⟨r, 0, none⟩ (.int .i64 0)).setCell ⟨r, 1, none⟩ (.int .i64 0)).setCell ⟨r, 2, none⟩ (.int .i64 0)).setCell ⟨r, 3, none⟩ (.int .i64 0)).setCell ⟨r, 4, none⟩ (.slice none 0 0)).setCell ⟨r, 5, none⟩ (.slice none 0 0) = V9 at hst ⊢
    obtain ⟨m0, m1, m2, m3, m4, m5⟩ := hst.box
    simp [results, Tryz.results26, go_sem, m0, m1, m2, m3, m4, m5]) rfl ?_
  rw [HNO.out]
  exact ⟨rfl, hcb⟩
 have e1 : ((EE : Int) != 0) = false := by simpa using hz
 have HZ : Hid (E = 0 ∧ A = l.length) := hide (by
  have h1 := HEE.out
  rw [hz] at h1
  unfold endX at h1
  have h3 := HN7.out
  have h4 := HS8.out.at_
  dsimp only at h4
  split at h1
  ·omega
  ·omega)
 clear hz
 have d0 := conv_at HBY8.out
 have d1 := conv_at HS8.out.by_
 by_cases hq : XB = l
 case neg =>
  have heq : ((str XB).toList == (str l).toList) = false := by rw [str_beq]; exact decide_eq_false hq
  have HQ := hide hq
  clear hq
  have HNO : Hid (getC l = none) := hide (by rw [HG.out]; unfold finR; dsimp only; rw [HXB.out]; exact if_neg fun h => HQ.out h.2.2.2)
  obtain ⟨y0, y1, y2, y3, y4, y5⟩ := HS8.out.rr.box
  have fr0 := HS8.out.rr.fr 0
  have fr1 := HS8.out.rr.fr 1
  have fr2 := HS8.out.rr.fr 2
  have fr3 := HS8.out.rr.fr 3
  have fr4 := HS8.out.rr.fr 4
  have fr5 := HS8.out.rr.fr 5
  go_wp2_with fail
  have hst := setC_row HS8.out.rr 0 0 0 0 (.slice none 0 0) (.slice none 0 0)
  have hcs := setC_chg w8 r 0 0 0 0 (.slice none 0 0) (.slice none 0 0)
  unfold setC at hst hcs
  have hcb := Chg.to_below HS8.out.bel hcs (fun k e => by have := HS8.out.lo; omega)
  refine bodyPost_ret (v := .tuple #[.agg #[.int .i64 0, .int .i64 0, .int .i64 0, .int .i64 0, .slice none 0 0, .slice none 0 0], .int .i64 90]) (by
    generalize (((((w8.setCell ⟨r, 0, none⟩ (.int .i64 0)).setCell ⟨r, 1, none⟩ (.int .i64 0)).setCell ⟨r, 2, none⟩ (.int .i64 0)).setCell ⟨r, 3, none⟩ (.int .i64 0)).setCell ⟨r, 4, none⟩ (.slice none 0 0)).setCell ⟨r, 5, none⟩ (.slice none 0 0) = V9 at hst ⊢
    obtain ⟨m0, m1, m2, m3, m4, m5⟩ := hst.box
    simp [results, Tryz.results26, go_sem, m0, m1, m2, m3, m4, m5]) rfl ?_
  rw [HNO.out]
  exact ⟨rfl, hcb⟩
 have heq : ((str XB).toList == (str l).toList) = true := by rw [str_beq]; exact decide_eq_true hq
 have HYES : Hid (getC l = some ⟨((K : Nat) : Int), 0, 0, ((x : Nat) : Int), [], []⟩) := hide (by rw [HG.out]; unfold finR; dsimp only; rw [HXB.out]; exact if_pos ⟨HOK.out, HZ.out.1, HZ.out.2, hq⟩)
 clear hq
 obtain ⟨y0, y1, y2, y3, y4, y5⟩ := HS8.out.rr.box
 obtain ⟨z0, z1, z2, z3, z4, z5⟩ := HS8.out.cc.box
 have fr0 := HS8.out.rr.fr 0
 have fr1 := HS8.out.rr.fr 1
 have fr2 := HS8.out.rr.fr 2
 have fr3 := HS8.out.rr.fr 3
 have fr4 := HS8.out.rr.fr 4
 have fr5 := HS8.out.rr.fr 5
 go_wp2_with fail
 have hst := setC_row HS8.out.rr (((K : Nat) : Int)) (0) (0) (((x : Nat) : Int)) (.slice none 0 0) (.slice none 0 0)
 have hcs := setC_chg w8 r (((K : Nat) : Int)) (0) (0) (((x : Nat) : Int)) (.slice none 0 0) (.slice none 0 0)
 unfold setC at hst hcs
 have hcb := Chg.to_below HS8.out.bel hcs (fun k e => by have := HS8.out.lo; omega)
 have ho9 := And.intro (ownS_chgO HO8.out.1 hcs (fun k e => by have := HS8.out.lo; omega)) (ownN_chgO HO8.out.2 hcs (fun k e => by have := HS8.out.lo; omega))
 refine bodyPost_ret (v := .tuple #[.agg #[.int .i64 (((K : Nat) : Int)), .int .i64 (0), .int .i64 (0), .int .i64 (((x : Nat) : Int)), .slice none 0 0, .slice none 0 0], .int .i64 0]) (by
   generalize (((((w8.setCell ⟨r, 0, none⟩ (.int .i64 ((K : Nat) : Int))).setCell ⟨r, 1, none⟩ (.int .i64 0)).setCell ⟨r, 2, none⟩ (.int .i64 0)).setCell ⟨r, 3, none⟩ (.int .i64 ((x : Nat) : Int))).setCell ⟨r, 4, none⟩ (.slice none 0 0)).setCell ⟨r, 5, none⟩ (.slice none 0 0) = V9 at hst ⊢
   obtain ⟨m0, m1, m2, m3, m4, m5⟩ := hst.box
   simp [results, Tryz.results26, go_sem, m0, m1, m2, m3, m4, m5]) rfl ?_
 rw [HYES.out]
 have hlo := HS8.out.lo
 exact ⟨_, _, _, _, _, _, rfl, OwnS.mono ho9.1 (by omega), OwnN.mono ho9.2 (by omega), hcb⟩
set_option maxRecDepth 200000 in
set_option maxHeartbeats 16000000 in
theorem rget4_any {w : World} {p : Option Addr} {n c : Nat} {l : List UInt8} (hv : By w (.slice p n c) l) (hl : l.length ≤ 65536) (h2 : (nx l (0, 0)).1 = 4) : Calls Tryz.prog 26 #[.slice p n c] w (GetP w (getC l)) := by
 have hG : getC l = finR l (some (⟨((nx l (0, 0)).1 : Nat), 0, 0, (nx l (nx l (0, 0)).2).1, [], []⟩, (nx l (nx l (0, 0)).2).2)) := by
  rw [getC_rdR]
  unfold rdR
  rw [if_neg (by omega), if_pos (by omega)]
 have hb0 : ∀ k, (Value.slice p n c).ownBlock = some k → l ≠ [] → k < w.heap.size := fun k hk hne => by
  rcases hv.ltM with e | e
  ·exact absurd e hne
  ·exact e k hk
 have hne0 : l = [] ∨ ∀ k, (Value.slice p n c).ownBlock = some k → k < w.heap.size := hv.ltM
 have b1 := (Below.refl w.heap.size w).alloc (Nat.le_refl _) (.cells #[.int .i64 0, .int .i64 0, .int .i64 0, .int .i64 0, .slice none 0 0, .slice none 0 0] 25)
 have b2 := b1.alloc (o := (.cells #[.slice p n c, .int .i64 0, .int .i64 0] 121)) b1.size
 have b3 := b2.alloc (o := (.cells #[.int .i64 0, .int .i64 0, .int .i64 0, .int .i64 0, .slice none 0 0, .slice none 0 0] 25)) b2.size
 have hX0 : (((w.alloc (.cells #[.int .i64 0, .int .i64 0, .int .i64 0, .int .i64 0, .slice none 0 0, .slice none 0 0] 25)).alloc (.cells #[.slice p n c, .int .i64 0, .int .i64 0] 121)).alloc (.cells #[.int .i64 0, .int .i64 0, .int .i64 0, .int .i64 0, .slice none 0 0, .slice none 0 0] 25)).heap.size = w.heap.size + 3 := by simp
 have hs1 : (w.alloc (.cells #[.int .i64 0, .int .i64 0, .int .i64 0, .int .i64 0, .slice none 0 0, .slice none 0 0] 25)).heap.size = w.heap.size + 1 := by simp
 have hs2 : ((w.alloc (.cells #[.int .i64 0, .int .i64 0, .int .i64 0, .int .i64 0, .slice none 0 0, .slice none 0 0] 25)).alloc (.cells #[.slice p n c, .int .i64 0, .int .i64 0] 121)).heap.size = w.heap.size + 2 := by simp
 have r1 : RowC (((w.alloc (.cells #[.int .i64 0, .int .i64 0, .int .i64 0, .int .i64 0, .slice none 0 0, .slice none 0 0] 25)).alloc (.cells #[.slice p n c, .int .i64 0, .int .i64 0] 121)).alloc (.cells #[.int .i64 0, .int .i64 0, .int .i64 0, .int .i64 0, .slice none 0 0, .slice none 0 0] 25)) w.heap.size 0 0 0 0 (.slice none 0 0) (.slice none 0 0) := ((RowC.new (k := 0) (se := 0) (sq := 0) (a := 0) (vs := .slice none 0 0) (vv := .slice none 0 0) w).below ((Below.refl _ _).alloc (Nat.le_refl _) (.cells #[.slice p n c, .int .i64 0, .int .i64 0] 121))).below ((Below.refl _ _).alloc (Nat.le_refl _) (.cells #[.int .i64 0, .int .i64 0, .int .i64 0, .int .i64 0, .slice none 0 0, .slice none 0 0] 25))
 have r2 : Sr (((w.alloc (.cells #[.int .i64 0, .int .i64 0, .int .i64 0, .int .i64 0, .slice none 0 0, .slice none 0 0] 25)).alloc (.cells #[.slice p n c, .int .i64 0, .int .i64 0] 121)).alloc (.cells #[.int .i64 0, .int .i64 0, .int .i64 0, .int .i64 0, .slice none 0 0, .slice none 0 0] 25)) (w.heap.size + 1) (.slice p n c) 0 0 := by
  have h1 : Sr ((w.alloc (.cells #[.int .i64 0, .int .i64 0, .int .i64 0, .int .i64 0, .slice none 0 0, .slice none 0 0] 25)).alloc (.cells #[.slice p n c, .int .i64 0, .int .i64 0] 121)) (w.heap.size + 1) (.slice p n c) 0 0 := by rw [← hs1]; exact heap_alloc_new (w.alloc (.cells #[.int .i64 0, .int .i64 0, .int .i64 0, .int .i64 0, .slice none 0 0, .slice none 0 0] 25)) (.cells #[.slice p n c, .int .i64 0, .int .i64 0] 121)
  exact (((Below.refl _ _).alloc (Nat.le_refl _) (.cells #[.int .i64 0, .int .i64 0, .int .i64 0, .int .i64 0, .slice none 0 0, .slice none 0 0] 25)).block _ h1.lt).trans h1
 have r3 : RowC (((w.alloc (.cells #[.int .i64 0, .int .i64 0, .int .i64 0, .int .i64 0, .slice none 0 0, .slice none 0 0] 25)).alloc (.cells #[.slice p n c, .int .i64 0, .int .i64 0] 121)).alloc (.cells #[.int .i64 0, .int .i64 0, .int .i64 0, .int .i64 0, .slice none 0 0, .slice none 0 0] 25)) (w.heap.size + 2) 0 0 0 0 (.slice none 0 0) (.slice none 0 0) := by rw [← hs2]; exact RowC.new _
 have hst0 : RgSt w (((w.alloc (.cells #[.int .i64 0, .int .i64 0, .int .i64 0, .int .i64 0, .slice none 0 0, .slice none 0 0] 25)).alloc (.cells #[.slice p n c, .int .i64 0, .int .i64 0] 121)).alloc (.cells #[.int .i64 0, .int .i64 0, .int .i64 0, .int .i64 0, .slice none 0 0, .slice none 0 0] 25)) w.heap.size (w.heap.size + 1) (w.heap.size + 2) (.slice p n c) l (0, 0) 0 0 0 0 (.slice none 0 0) (.slice none 0 0) := ⟨r1, r2, r3, hv.below b3, hne0, Nat.zero_le _, by omega, b3⟩
 have HS00 := hide hst0
 obtain ⟨K, hK⟩ : ∃ k, (nx l (0, 0)).1 = k := ⟨_, rfl⟩
 obtain ⟨s1, hs1'⟩ : ∃ s, (nx l (0, 0)).2 = s := ⟨_, rfl⟩
 have hKl := (nx_le (l := l) (st := (0, 0)) (Nat.zero_le _)).2
 rw [hK] at hKl
 have HKS := hide (And.intro hK hs1')
 have HLL := hide hl
 rw [hK, hs1'] at hG
 obtain ⟨x, hx⟩ : ∃ x, (nx l s1).1 = x := ⟨_, rfl⟩
 obtain ⟨s2, hs2⟩ : ∃ x, (nx l s1).2 = x := ⟨_, rfl⟩
 have HXS := hide (And.intro hx hs2)
 rw [hx, hs2] at hG
 obtain ⟨A, E⟩ := s2
 have HG := hide hG
 rw [hK] at h2
 have e2 : ((K : Int) == 2) = false := by simpa using (show ¬ (K : Int) = 2 by omega)
 have e3 : ((K : Int) == 3) = false := by simpa using (show ¬ (K : Int) = 3 by omega)
 have e4 : ((K : Int) == 4) = true := by simpa using (show (K : Int) = 4 by omega)
 have e5 : ((K : Int) == 5) = false := by simpa using (show ¬ (K : Int) = 5 by omega)
 clear hG hK hs1' h2 hx hs2
 clear hst0 b1 b2 b3 r1 r2 r3 hb0 hne0 hX0 hs1 hs2 hv hl
 go_enter Tryz.func26, Tryz.ntmps26
 go_upto_region 3 with fail
 obtain ⟨X, hX⟩ : ∃ X, ((w.alloc (.cells #[.int .i64 0, .int .i64 0, .int .i64 0, .int .i64 0, .slice none 0 0, .slice none 0 0] 25)).alloc (.cells #[.slice p n c, .int .i64 0, .int .i64 0] 121)).alloc (.cells #[.int .i64 0, .int .i64 0, .int .i64 0, .int .i64 0, .slice none 0 0, .slice none 0 0] 25) = X := ⟨_, rfl⟩
 obtain ⟨r, hr⟩ : ∃ r, w.heap.size = r := ⟨_, rfl⟩
 obtain ⟨g, hg⟩ : ∃ g, r + 1 = g := ⟨_, rfl⟩
 obtain ⟨b, hb⟩ : ∃ b, g + 1 = b := ⟨_, rfl⟩
 have hb2 : r + 2 = b := by omega
 have HS0 := hide HS00.out
 rw [hX, hr, hg, hb2] at HS0
 rw [hX, hr, hg, hb]
 have N1 := hide HS0.out.num
 rw [HKS.out.1, HKS.out.2] at N1
 clear hX hr hg hb hb2 HS00
 obtain ⟨z0, z1, z2, z3, z4, z5⟩ := HS0.out.cc.box
 have fb0 := HS0.out.cc.fr 0
 go_wp2_with fail
 refine N1.out.mono ?_
 rintro e w1 ⟨rfl, h1, hgr⟩
 have HS1 := hide h1
 clear h1 hgr N1 z0 z1 z2 z3 z4 z5 fb0
 obtain ⟨z0, z1, z2, z3, z4, z5⟩ := HS1.out.cc.box
 have fb0 := HS1.out.cc.fr 0
 go_upto_region 4 with fail
 have hst := HS1.out.cc.set0 (K : Nat)
 have hcs := chg_set w1 b 0 (.int .i64 (K : Nat))
 obtain ⟨w2, hWw2⟩ : ∃ X, w1.setCell ⟨b, 0, none⟩ (.int .i64 (K : Nat)) = X := ⟨_, rfl⟩
 rw [hWw2] at hst hcs ⊢
 have HSa := hide (HS1.out.put hst hcs)
 clear hst hcs hWw2 z0 z1 z2 z3 z4 z5
 try clear fb0
 try clear fb1
 try clear fb2
 try clear fb3
 try clear fb4
 obtain ⟨z0, z1, z2, z3, z4, z5⟩ := HSa.out.cc.box
 have N2 := hide HSa.out.num
 rw [HXS.out.1, HXS.out.2] at N2
 go_wp2_with fail
 refine N2.out.mono ?_
 rintro e w3 ⟨rfl, h3, hg3⟩
 have HSb := hide h3
 clear h3 hg3 N2 z0 z1 z2 z3 z4 z5
 obtain ⟨z0, z1, z2, z3, z4, z5⟩ := HSb.out.cc.box
 have fb3 := HSb.out.cc.fr 3
 go_upto_region 13 with fail
 have hst := HSb.out.cc.set3 (x : Nat)
 have hcs := chg_set w3 b 3 (.int .i64 (x : Nat))
 obtain ⟨w4, hWw4⟩ : ∃ X, w3.setCell ⟨b, 3, none⟩ (.int .i64 (x : Nat)) = X := ⟨_, rfl⟩
 rw [hWw4] at hst hcs ⊢
 have HS := hide (HSb.out.put hst hcs)
 clear hst hcs hWw4 z0 z1 z2 z3 z4 z5
 try clear fb0
 try clear fb1
 try clear fb2
 try clear fb3
 try clear fb4
 obtain ⟨z0, z1, z2, z3, z4, z5⟩ := HS.out.cc.box
 have HO : Hid (OwnS (b + 1) w4 (.slice none 0 0) [] ∧ OwnN (b + 1) w4 (.slice none 0 0) [] ∧ ∀ x ∈ ([] : List Sp), x.n.size ≤ 1100000) := hide ⟨OwnS.nil _ _, OwnN.nil _ _, fun x hx => by cases hx⟩
 have HCM : Hid (CmAt w4 (.slice none 0 0) (.slice none 0 0) ⟨((K : Nat) : Int), 0, 0, ((x : Nat) : Int), [], []⟩) := hide ⟨HO.out.1.sps, HO.out.2.1.ns, HO.out.2.2⟩
 have HMP := hide (rput_any HCM.out)
 unfold cmV at HMP
 dsimp only at HMP
 obtain ⟨XB, hXB⟩ : ∃ xb, Cm.bytes ⟨((K : Nat) : Int), 0, 0, ((x : Nat) : Int), [], []⟩ = xb := ⟨_, rfl⟩
 have HXB := hide hXB
 clear hXB
 go_wp2_with fail
 refine HMP.out.mono ?_
 intro e w7 hp7
 rcases hp7 with ⟨hok, p7, n7, c7, rfl, ho7, hb7⟩ | ⟨hno, rfl, hb7⟩
 case inr =>
  have HS7 := hide (HS.out.below hb7)
  have HOK := hide hno
  clear hno hb7 HMP z0 z1 z2 z3 z4 z5
  have HNO : Hid (getC l = none) := hide (by rw [HG.out]; unfold finR; dsimp only; rw [if_neg (fun h => by rw [HOK.out] at h; cases h.1)])
  obtain ⟨y0, y1, y2, y3, y4, y5⟩ := HS7.out.rr.box
  have fr0 := HS7.out.rr.fr 0
  have fr1 := HS7.out.rr.fr 1
  have fr2 := HS7.out.rr.fr 2
  have fr3 := HS7.out.rr.fr 3
  have fr4 := HS7.out.rr.fr 4
  have fr5 := HS7.out.rr.fr 5
  go_wp2_with fail
  have hst := setC_row HS7.out.rr 0 0 0 0 (.slice none 0 0) (.slice none 0 0)
  have hcs := setC_chg w7 r 0 0 0 0 (.slice none 0 0) (.slice none 0 0)
  unfold setC at hst hcs
  have hcb := Chg.to_below HS7.out.bel hcs (fun k e => by have := HS7.out.lo; omega)
  refine bodyPost_ret (v := .tuple #[.agg #[.int .i64 0, .int .i64 0, .int .i64 0, .int .i64 0, .slice none 0 0, .slice none 0 0], .int .i64 90]) (by
    generalize (((((w7.setCell ⟨r, 0, none⟩ (.int .i64 0)).setCell ⟨r, 1, none⟩ (.int .i64 0)).setCell ⟨r, 2, none⟩ (.int .i64 0)).setCell ⟨r, 3, none⟩ (.int .i64 0)).setCell ⟨r, 4, none⟩ (.slice none 0 0)).setCell ⟨r, 5, none⟩ (.slice none 0 0) = V9 at hst ⊢
    obtain ⟨m0, m1, m2, m3, m4, m5⟩ := hst.box
    simp [results, Tryz.results26, go_sem, m0, m1, m2, m3, m4, m5]) rfl ?_
  rw [HNO.out]
  exact ⟨rfl, hcb⟩
 have HS7 := hide (HS.out.below hb7)
 have HO7 := hide (And.intro (HO.out.1.below hb7) (HO.out.2.1.below hb7))
 have HOK := hide hok
 rw [HXB.out] at ho7
 have HBY := hide ho7
 have HWL : Hid (g < w4.heap.size) := hide HS.out.sc.lt
 have HEND := hide (rend_any HS7.out.sc)
 have HN7 : Hid (n = l.length) := hide HS7.out.by_.len.1
 obtain ⟨EE, hEE⟩ : ∃ x, endX n A E = x := ⟨_, rfl⟩
 rw [hEE] at HEND
 have HEE := hide hEE
 clear hok hb7 ho7 HMP z0 z1 z2 z3 z4 z5 hEE
 go_wp2_with fail
 refine HEND.out.mono ?_
 rintro e w8 ⟨rfl, hs8, hg8⟩
 have HS8 : Hid (RgSt w w8 r g b (.slice p n c) l (A, EE) (((K : Nat) : Int)) (0) (0) (((x : Nat) : Int)) (.slice none 0 0) (.slice none 0 0)) := hide (HS7.out.next (st' := (A, EE)) hs8 hg8 HS7.out.at_)
 have hc8 := Chg.of_grown hg8 (fun k => k = g) (fun k e => by injection e with e; exact .inl e.symm)
 have HO8 := hide (And.intro (ownS_chgO HO7.out.1 hc8 (fun k e => by have := HS7.out.lo; omega)) (ownN_chgO HO7.out.2 hc8 (fun k e => by have := HS7.out.lo; omega)))
 have HBY8 : Hid (By w8 (.slice p7 n7 c7) XB) := hide (HBY.out.byFar' hc8 (fun k e => by have := HWL.out; omega))
 clear hs8 hg8 hc8 HEND
 by_cases hz : EE = 0
 case neg =>
  have e1 : ((EE : Int) != 0) = true := by simpa using hz
  have HZ := hide hz
  clear hz
  have HNO : Hid (getC l = none) := hide (by
     rw [HG.out]; unfold finR; dsimp only
     refine if_neg fun h => HZ.out ?_
     rw [← HEE.out]; unfold endX
     rw [if_neg (fun q => by have := HN7.out; omega)]; exact h.2.1)
  obtain ⟨y0, y1, y2, y3, y4, y5⟩ := HS8.out.rr.box
  have fr0 := HS8.out.rr.fr 0
  have fr1 := HS8.out.rr.fr 1
  have fr2 := HS8.out.rr.fr 2
  have fr3 := HS8.out.rr.fr 3
  have fr4 := HS8.out.rr.fr 4
  have fr5 := HS8.out.rr.fr 5
  go_wp2_with fail
  have hst := setC_row HS8.out.rr 0 0 0 0 (.slice none 0 0) (.slice none 0 0)
  have hcs := setC_chg w8 r 0 0 0 0 (.slice none 0 0) (.slice none 0 0)
  unfold setC at hst hcs
  have hcb := Chg.to_below HS8.out.bel hcs (fun k e => by have := HS8.out.lo; omega)
  refine bodyPost_ret (v := .tuple #[.agg #[.int .i64 0, .int .i64 0, .int .i64 0, .int .i64 0, .slice none 0 0, .slice none 0 0], .int .i64 90]) (by
    generalize (((((w8.setCell ⟨r, 0, none⟩ (.int .i64 0)).setCell ⟨r, 1, none⟩ (.int .i64 0)).setCell ⟨r, 2, none⟩ (.int .i64 0)).setCell ⟨r, 3, none⟩ (.int .i64 0)).setCell ⟨r, 4, none⟩ (.slice none 0 0)).setCell ⟨r, 5, none⟩ (.slice none 0 0) = V9 at hst ⊢
    obtain ⟨m0, m1, m2, m3, m4, m5⟩ := hst.box
    simp [results, Tryz.results26, go_sem, m0, m1, m2, m3, m4, m5]) rfl ?_
  rw [HNO.out]
  exact ⟨rfl, hcb⟩
 have e1 : ((EE : Int) != 0) = false := by simpa using hz
 have HZ : Hid (E = 0 ∧ A = l.length) := hide (by
  have h1 := HEE.out
  rw [hz] at h1
  unfold endX at h1
  have h3 := HN7.out
  have h4 := HS8.out.at_
  dsimp only at h4
  split at h1
  ·omega
  ·omega)
 clear hz
 have d0 := conv_at HBY8.out
 have d1 := conv_at HS8.out.by_
 by_cases hq : XB = l
 case neg =>
  have heq : ((str XB).toList == (str l).toList) = false := by rw [str_beq]; exact decide_eq_false hq
  have HQ := hide hq
  clear hq
  have HNO : Hid (getC l = none) := hide (by rw [HG.out]; unfold finR; dsimp only; rw [HXB.out]; exact if_neg fun h => HQ.out h.2.2.2)
  obtain ⟨y0, y1, y2, y3, y4, y5⟩ := HS8.out.rr.box
  have fr0 := HS8.out.rr.fr 0
  have fr1 := HS8.out.rr.fr 1
  have fr2 := HS8.out.rr.fr 2
  have fr3 := HS8.out.rr.fr 3
  have fr4 := HS8.out.rr.fr 4
  have fr5 := HS8.out.rr.fr 5
  go_wp2_with fail
  have hst := setC_row HS8.out.rr 0 0 0 0 (.slice none 0 0) (.slice none 0 0)
  have hcs := setC_chg w8 r 0 0 0 0 (.slice none 0 0) (.slice none 0 0)
  unfold setC at hst hcs
  have hcb := Chg.to_below HS8.out.bel hcs (fun k e => by have := HS8.out.lo; omega)
  refine bodyPost_ret (v := .tuple #[.agg #[.int .i64 0, .int .i64 0, .int .i64 0, .int .i64 0, .slice none 0 0, .slice none 0 0], .int .i64 90]) (by
    generalize (((((w8.setCell ⟨r, 0, none⟩ (.int .i64 0)).setCell ⟨r, 1, none⟩ (.int .i64 0)).setCell ⟨r, 2, none⟩ (.int .i64 0)).setCell ⟨r, 3, none⟩ (.int .i64 0)).setCell ⟨r, 4, none⟩ (.slice none 0 0)).setCell ⟨r, 5, none⟩ (.slice none 0 0) = V9 at hst ⊢
    obtain ⟨m0, m1, m2, m3, m4, m5⟩ := hst.box
    simp [results, Tryz.results26, go_sem, m0, m1, m2, m3, m4, m5]) rfl ?_
  rw [HNO.out]
  exact ⟨rfl, hcb⟩
 have heq : ((str XB).toList == (str l).toList) = true := by rw [str_beq]; exact decide_eq_true hq
 have HYES : Hid (getC l = some ⟨((K : Nat) : Int), 0, 0, ((x : Nat) : Int), [], []⟩) := hide (by rw [HG.out]; unfold finR; dsimp only; rw [HXB.out]; exact if_pos ⟨HOK.out, HZ.out.1, HZ.out.2, hq⟩)
 clear hq
 obtain ⟨y0, y1, y2, y3, y4, y5⟩ := HS8.out.rr.box
 obtain ⟨z0, z1, z2, z3, z4, z5⟩ := HS8.out.cc.box
 have fr0 := HS8.out.rr.fr 0
 have fr1 := HS8.out.rr.fr 1
 have fr2 := HS8.out.rr.fr 2
 have fr3 := HS8.out.rr.fr 3
 have fr4 := HS8.out.rr.fr 4
 have fr5 := HS8.out.rr.fr 5
 go_wp2_with fail
 have hst := setC_row HS8.out.rr (((K : Nat) : Int)) (0) (0) (((x : Nat) : Int)) (.slice none 0 0) (.slice none 0 0)
 have hcs := setC_chg w8 r (((K : Nat) : Int)) (0) (0) (((x : Nat) : Int)) (.slice none 0 0) (.slice none 0 0)
 unfold setC at hst hcs
 have hcb := Chg.to_below HS8.out.bel hcs (fun k e => by have := HS8.out.lo; omega)
 have ho9 := And.intro (ownS_chgO HO8.out.1 hcs (fun k e => by have := HS8.out.lo; omega)) (ownN_chgO HO8.out.2 hcs (fun k e => by have := HS8.out.lo; omega))
 refine bodyPost_ret (v := .tuple #[.agg #[.int .i64 (((K : Nat) : Int)), .int .i64 (0), .int .i64 (0), .int .i64 (((x : Nat) : Int)), .slice none 0 0, .slice none 0 0], .int .i64 0]) (by
   generalize (((((w8.setCell ⟨r, 0, none⟩ (.int .i64 ((K : Nat) : Int))).setCell ⟨r, 1, none⟩ (.int .i64 0)).setCell ⟨r, 2, none⟩ (.int .i64 0)).setCell ⟨r, 3, none⟩ (.int .i64 ((x : Nat) : Int))).setCell ⟨r, 4, none⟩ (.slice none 0 0)).setCell ⟨r, 5, none⟩ (.slice none 0 0) = V9 at hst ⊢
   obtain ⟨m0, m1, m2, m3, m4, m5⟩ := hst.box
   simp [results, Tryz.results26, go_sem, m0, m1, m2, m3, m4, m5]) rfl ?_
 rw [HYES.out]
 have hlo := HS8.out.lo
 exact ⟨_, _, _, _, _, _, rfl, OwnS.mono ho9.1 (by omega), OwnN.mono ho9.2 (by omega), hcb⟩
set_option maxRecDepth 200000 in
set_option maxHeartbeats 16000000 in
theorem rget2_any {w : World} {p : Option Addr} {n c : Nat} {l : List UInt8} (hv : By w (.slice p n c) l) (hl : l.length ≤ 65536) (h2 : (nx l (0, 0)).1 = 2) : Calls Tryz.prog 26 #[.slice p n c] w (GetP w (getC l)) := by
 have hG0 : ∀ x s2 y s3 R E T s4, (nx l (nx l (0, 0)).2).1 = x → (nx l (nx l (0, 0)).2).2 = s2 → (nx l s2).1 = y → (nx l s2).2 = s3 → (rdT l s3).1 = T → (rdT l s3).2 = s4 → refP T = (R, E) → getC l = if E = 0 then finR l (some (⟨((nx l (0, 0)).1 : Nat), (x : Nat), (y : Nat), 0, R, []⟩, s4)) else none := by
  rintro x s2 y s3 R E T s4 rfl rfl rfl rfl rfl rfl hR
  rw [getC_rdR]
  unfold rdR
  rw [if_pos h2, hR, h2]
  dsimp only
  split <;> rfl
 have hb0 : ∀ k, (Value.slice p n c).ownBlock = some k → l ≠ [] → k < w.heap.size := fun k hk hne => by
  rcases hv.ltM with e | e
  ·exact absurd e hne
  ·exact e k hk
 have hne0 : l = [] ∨ ∀ k, (Value.slice p n c).ownBlock = some k → k < w.heap.size := hv.ltM
 have b1 := (Below.refl w.heap.size w).alloc (Nat.le_refl _) (.cells #[.int .i64 0, .int .i64 0, .int .i64 0, .int .i64 0, .slice none 0 0, .slice none 0 0] 25)
 have b2 := b1.alloc (o := (.cells #[.slice p n c, .int .i64 0, .int .i64 0] 121)) b1.size
 have b3 := b2.alloc (o := (.cells #[.int .i64 0, .int .i64 0, .int .i64 0, .int .i64 0, .slice none 0 0, .slice none 0 0] 25)) b2.size
 have hX0 : (((w.alloc (.cells #[.int .i64 0, .int .i64 0, .int .i64 0, .int .i64 0, .slice none 0 0, .slice none 0 0] 25)).alloc (.cells #[.slice p n c, .int .i64 0, .int .i64 0] 121)).alloc (.cells #[.int .i64 0, .int .i64 0, .int .i64 0, .int .i64 0, .slice none 0 0, .slice none 0 0] 25)).heap.size = w.heap.size + 3 := by simp
 have hs1 : (w.alloc (.cells #[.int .i64 0, .int .i64 0, .int .i64 0, .int .i64 0, .slice none 0 0, .slice none 0 0] 25)).heap.size = w.heap.size + 1 := by simp
 have hs2 : ((w.alloc (.cells #[.int .i64 0, .int .i64 0, .int .i64 0, .int .i64 0, .slice none 0 0, .slice none 0 0] 25)).alloc (.cells #[.slice p n c, .int .i64 0, .int .i64 0] 121)).heap.size = w.heap.size + 2 := by simp
 have r1 : RowC (((w.alloc (.cells #[.int .i64 0, .int .i64 0, .int .i64 0, .int .i64 0, .slice none 0 0, .slice none 0 0] 25)).alloc (.cells #[.slice p n c, .int .i64 0, .int .i64 0] 121)).alloc (.cells #[.int .i64 0, .int .i64 0, .int .i64 0, .int .i64 0, .slice none 0 0, .slice none 0 0] 25)) w.heap.size 0 0 0 0 (.slice none 0 0) (.slice none 0 0) := ((RowC.new (k := 0) (se := 0) (sq := 0) (a := 0) (vs := .slice none 0 0) (vv := .slice none 0 0) w).below ((Below.refl _ _).alloc (Nat.le_refl _) (.cells #[.slice p n c, .int .i64 0, .int .i64 0] 121))).below ((Below.refl _ _).alloc (Nat.le_refl _) (.cells #[.int .i64 0, .int .i64 0, .int .i64 0, .int .i64 0, .slice none 0 0, .slice none 0 0] 25))
 have r2 : Sr (((w.alloc (.cells #[.int .i64 0, .int .i64 0, .int .i64 0, .int .i64 0, .slice none 0 0, .slice none 0 0] 25)).alloc (.cells #[.slice p n c, .int .i64 0, .int .i64 0] 121)).alloc (.cells #[.int .i64 0, .int .i64 0, .int .i64 0, .int .i64 0, .slice none 0 0, .slice none 0 0] 25)) (w.heap.size + 1) (.slice p n c) 0 0 := by
  have h1 : Sr ((w.alloc (.cells #[.int .i64 0, .int .i64 0, .int .i64 0, .int .i64 0, .slice none 0 0, .slice none 0 0] 25)).alloc (.cells #[.slice p n c, .int .i64 0, .int .i64 0] 121)) (w.heap.size + 1) (.slice p n c) 0 0 := by rw [← hs1]; exact heap_alloc_new (w.alloc (.cells #[.int .i64 0, .int .i64 0, .int .i64 0, .int .i64 0, .slice none 0 0, .slice none 0 0] 25)) (.cells #[.slice p n c, .int .i64 0, .int .i64 0] 121)
  exact (((Below.refl _ _).alloc (Nat.le_refl _) (.cells #[.int .i64 0, .int .i64 0, .int .i64 0, .int .i64 0, .slice none 0 0, .slice none 0 0] 25)).block _ h1.lt).trans h1
 have r3 : RowC (((w.alloc (.cells #[.int .i64 0, .int .i64 0, .int .i64 0, .int .i64 0, .slice none 0 0, .slice none 0 0] 25)).alloc (.cells #[.slice p n c, .int .i64 0, .int .i64 0] 121)).alloc (.cells #[.int .i64 0, .int .i64 0, .int .i64 0, .int .i64 0, .slice none 0 0, .slice none 0 0] 25)) (w.heap.size + 2) 0 0 0 0 (.slice none 0 0) (.slice none 0 0) := by rw [← hs2]; exact RowC.new _
 have hst0 : RgSt w (((w.alloc (.cells #[.int .i64 0, .int .i64 0, .int .i64 0, .int .i64 0, .slice none 0 0, .slice none 0 0] 25)).alloc (.cells #[.slice p n c, .int .i64 0, .int .i64 0] 121)).alloc (.cells #[.int .i64 0, .int .i64 0, .int .i64 0, .int .i64 0, .slice none 0 0, .slice none 0 0] 25)) w.heap.size (w.heap.size + 1) (w.heap.size + 2) (.slice p n c) l (0, 0) 0 0 0 0 (.slice none 0 0) (.slice none 0 0) := ⟨r1, r2, r3, hv.below b3, hne0, Nat.zero_le _, by omega, b3⟩
 have HS00 := hide hst0
 obtain ⟨K, hK⟩ : ∃ k, (nx l (0, 0)).1 = k := ⟨_, rfl⟩
 obtain ⟨s1, hs1'⟩ : ∃ s, (nx l (0, 0)).2 = s := ⟨_, rfl⟩
 have hKl := (nx_le (l := l) (st := (0, 0)) (Nat.zero_le _)).2
 rw [hK] at hKl
 have HKS := hide (And.intro hK hs1')
 have HLL := hide hl
 rw [hs1', hK] at hG0
 obtain ⟨x, hx⟩ : ∃ x, (nx l s1).1 = x := ⟨_, rfl⟩
 obtain ⟨s2, hs2⟩ : ∃ x, (nx l s1).2 = x := ⟨_, rfl⟩
 obtain ⟨y, hy⟩ : ∃ x, (nx l s2).1 = x := ⟨_, rfl⟩
 obtain ⟨s3, hs3⟩ : ∃ x, (nx l s2).2 = x := ⟨_, rfl⟩
 obtain ⟨T, hT⟩ : ∃ x, (rdT l s3).1 = x := ⟨_, rfl⟩
 obtain ⟨s4, hs4⟩ : ∃ x, (rdT l s3).2 = x := ⟨_, rfl⟩
 obtain ⟨R, F, hR⟩ : ∃ r e, refP T = (r, e) := ⟨_, _, rfl⟩
 have hG := hG0 x s2 y s3 R F T s4 hx hs2 hy hs3 hT hs4 hR
 have HXS := hide (And.intro hx (And.intro hs2 (And.intro hy (And.intro hs3 (And.intro hT hs4)))))
 have HRP := hide hR
 obtain ⟨A, E⟩ := s4
 have HG := hide hG
 have HTL : Hid (T.length ≤ 4096) := hide (by rw [← hT]; exact tx_len)
 rw [hK] at h2
 have e2 : ((K : Int) == 2) = true := by simpa using (show (K : Int) = 2 by omega)
 have e3 : ((K : Int) == 3) = false := by simpa using (show ¬ (K : Int) = 3 by omega)
 have e4 : ((K : Int) == 4) = false := by simpa using (show ¬ (K : Int) = 4 by omega)
 have e5 : ((K : Int) == 5) = false := by simpa using (show ¬ (K : Int) = 5 by omega)
 clear hG hG0 hK hs1' h2 hx hs2 hy hs3 hT hs4 hR
 clear hst0 b1 b2 b3 r1 r2 r3 hb0 hne0 hX0 hs1 hs2 hv hl
 go_enter Tryz.func26, Tryz.ntmps26
 go_upto_region 3 with fail
 obtain ⟨X, hX⟩ : ∃ X, ((w.alloc (.cells #[.int .i64 0, .int .i64 0, .int .i64 0, .int .i64 0, .slice none 0 0, .slice none 0 0] 25)).alloc (.cells #[.slice p n c, .int .i64 0, .int .i64 0] 121)).alloc (.cells #[.int .i64 0, .int .i64 0, .int .i64 0, .int .i64 0, .slice none 0 0, .slice none 0 0] 25) = X := ⟨_, rfl⟩
 obtain ⟨r, hr⟩ : ∃ r, w.heap.size = r := ⟨_, rfl⟩
 obtain ⟨g, hg⟩ : ∃ g, r + 1 = g := ⟨_, rfl⟩
 obtain ⟨b, hb⟩ : ∃ b, g + 1 = b := ⟨_, rfl⟩
 have hb2 : r + 2 = b := by omega
 have HS0 := hide HS00.out
 rw [hX, hr, hg, hb2] at HS0
 rw [hX, hr, hg, hb]
 have N1 := hide HS0.out.num
 rw [HKS.out.1, HKS.out.2] at N1
 clear hX hr hg hb hb2 HS00
 obtain ⟨z0, z1, z2, z3, z4, z5⟩ := HS0.out.cc.box
 have fb0 := HS0.out.cc.fr 0
 go_wp2_with fail
 refine N1.out.mono ?_
 rintro e w1 ⟨rfl, h1, hgr⟩
 have HS1 := hide h1
 clear h1 hgr N1 z0 z1 z2 z3 z4 z5 fb0
 obtain ⟨z0, z1, z2, z3, z4, z5⟩ := HS1.out.cc.box
 have fb0 := HS1.out.cc.fr 0
 go_upto_region 4 with fail
 have hst := HS1.out.cc.set0 (K : Nat)
 have hcs := chg_set w1 b 0 (.int .i64 (K : Nat))
 obtain ⟨w2, hWw2⟩ : ∃ X, w1.setCell ⟨b, 0, none⟩ (.int .i64 (K : Nat)) = X := ⟨_, rfl⟩
 rw [hWw2] at hst hcs ⊢
 have HSa := hide (HS1.out.put hst hcs)
 clear hst hcs hWw2 z0 z1 z2 z3 z4 z5
 try clear fb0
 try clear fb1
 try clear fb2
 try clear fb3
 try clear fb4
 obtain ⟨z0, z1, z2, z3, z4, z5⟩ := HSa.out.cc.box
 have N2 := hide HSa.out.num
 rw [HXS.out.1, HXS.out.2.1] at N2
 go_wp2_with fail
 refine N2.out.mono ?_
 rintro e w3 ⟨rfl, h3, hg3⟩
 have HSb := hide h3
 clear h3 hg3 N2 z0 z1 z2 z3 z4 z5
 obtain ⟨z0, z1, z2, z3, z4, z5⟩ := HSb.out.cc.box
 have fb1 := HSb.out.cc.fr 1
 go_upto_region 6 with fail
 have hst := HSb.out.cc.set1 (x : Nat)
 have hcs := chg_set w3 b 1 (.int .i64 (x : Nat))
 obtain ⟨w4, hWw4⟩ : ∃ X, w3.setCell ⟨b, 1, none⟩ (.int .i64 (x : Nat)) = X := ⟨_, rfl⟩
 rw [hWw4] at hst hcs ⊢
 have HSc := hide (HSb.out.put hst hcs)
 clear hst hcs hWw4 z0 z1 z2 z3 z4 z5
 try clear fb0
 try clear fb1
 try clear fb2
 try clear fb3
 try clear fb4
 obtain ⟨z0, z1, z2, z3, z4, z5⟩ := HSc.out.cc.box
 have N3 := hide HSc.out.num
 rw [HXS.out.2.2.1, HXS.out.2.2.2.1] at N3
 go_wp2_with fail
 refine N3.out.mono ?_
 rintro e w5 ⟨rfl, h5, hg5⟩
 have HSd := hide h5
 clear h5 hg5 N3 z0 z1 z2 z3 z4 z5
 obtain ⟨z0, z1, z2, z3, z4, z5⟩ := HSd.out.cc.box
 have fb2 := HSd.out.cc.fr 2
 go_upto_region 7 with fail
 have hst := HSd.out.cc.set2 (y : Nat)
 have hcs := chg_set w5 b 2 (.int .i64 (y : Nat))
 obtain ⟨w6, hWw6⟩ : ∃ X, w5.setCell ⟨b, 2, none⟩ (.int .i64 (y : Nat)) = X := ⟨_, rfl⟩
 rw [hWw6] at hst hcs ⊢
 have HSe := hide (HSd.out.put hst hcs)
 clear hst hcs hWw6 z0 z1 z2 z3 z4 z5
 try clear fb0
 try clear fb1
 try clear fb2
 try clear fb3
 try clear fb4
 obtain ⟨z0, z1, z2, z3, z4, z5⟩ := HSe.out.cc.box
 have N4 := hide HSe.out.txt
 rw [HXS.out.2.2.2.2.1, HXS.out.2.2.2.2.2] at N4
 go_wp2_with fail
 refine N4.out.mono ?_
 rintro e w7 ⟨rfl, h7, hg7⟩
 obtain ⟨qc, w8, hcv, how, hbw⟩ := conv_own w7 T (by have := HTL.out; omega)
 have HSf := hide (h7.below hbw)
 have HRG := hide (refGet_any how.by_ (by have := HTL.out; omega) HRP.out)
 clear h7 hg7 N4 z0 z1 z2 z3 z4 z5 how hbw
 go_wp2_with fail
 refine HRG.out.mono ?_
 rintro e w9 ⟨v9, rfl, ho9, hb9⟩
 obtain ⟨p9, n9, c9, rfl⟩ := ho9.sps.sl
 have HSg := hide (HSf.out.below hb9)
 have HO9 : Hid (OwnS (b + 1) w9 (.slice p9 n9 c9) R) := hide (OwnS.mono ho9 HSf.out.cc.lt)
 clear ho9 hb9 HRG hcv
 by_cases hF : F = 0
 case neg =>
  have e1 : ((F : Int) != 0) = true := by simpa using hF
  have HF := hide hF
  clear hF
  have HNO : Hid (getC l = none) := hide (by rw [HG.out]; exact if_neg HF.out)
  obtain ⟨y0, y1, y2, y3, y4, y5⟩ := HSg.out.rr.box
  have fr0 := HSg.out.rr.fr 0
  have fr1 := HSg.out.rr.fr 1
  have fr2 := HSg.out.rr.fr 2
  have fr3 := HSg.out.rr.fr 3
  have fr4 := HSg.out.rr.fr 4
  have fr5 := HSg.out.rr.fr 5
  go_wp2_with fail
  have hst := setC_row HSg.out.rr 0 0 0 0 (.slice none 0 0) (.slice none 0 0)
  have hcs := setC_chg w9 r 0 0 0 0 (.slice none 0 0) (.slice none 0 0)
  unfold setC at hst hcs
  have hcb := Chg.to_below HSg.out.bel hcs (fun k e => by have := HSg.out.lo; omega)
  refine bodyPost_ret (v := .tuple #[.agg #[.int .i64 0, .int .i64 0, .int .i64 0, .int .i64 0, .slice none 0 0, .slice none 0 0], .int .i64 90]) (by
    generalize (((((w9.setCell ⟨r, 0, none⟩ (.int .i64 0)).setCell ⟨r, 1, none⟩ (.int .i64 0)).setCell ⟨r, 2, none⟩ (.int .i64 0)).setCell ⟨r, 3, none⟩ (.int .i64 0)).setCell ⟨r, 4, none⟩ (.slice none 0 0)).setCell ⟨r, 5, none⟩ (.slice none 0 0) = V9 at hst ⊢
    obtain ⟨m0, m1, m2, m3, m4, m5⟩ := hst.box
    simp [results, Tryz.results26, go_sem, m0, m1, m2, m3, m4, m5]) rfl ?_
  rw [HNO.out]
  exact ⟨rfl, hcb⟩
 have e1 : ((F : Int) != 0) = false := by simpa using hF
 have HG' : Hid (getC l = finR l (some (⟨((K : Nat) : Int), ((x : Nat) : Int), ((y : Nat) : Int), 0, R, []⟩, (A, E)))) := hide (by rw [HG.out]; exact if_pos hF)
 have HNMS : Hid (∀ z ∈ R, z.n.size ≤ 1100000) := hide (fun z hz => by
  have h1 : GetIs T R F := by have h0 := refP_is T; rw [HRP.out] at h0; exact h0
  rcases h1 with ⟨_, h2, _⟩ | ⟨h2, _⟩
  ·have n2 : z.n.data.toList.length ≤ 32 := ((Sp.ok_iff z).1 (h2 z hz)).n2
   have h4 : z.n.data.toList.length = z.n.size := by simp
   omega
  ·exact absurd hF (by omega))
 clear hF HG
 have HG := HG'
 clear HG'
 obtain ⟨z0, z1, z2, z3, z4, z5⟩ := HSg.out.cc.box
 have fb4 := HSg.out.cc.fr 4
 go_upto_region 11 with fail
 have hst := HSg.out.cc.set4 (.slice p9 n9 c9)
 have hcs := chg_set w9 b 4 (.slice p9 n9 c9)
 obtain ⟨wA, hWwA⟩ : ∃ X, w9.setCell ⟨b, 4, none⟩ (.slice p9 n9 c9) = X := ⟨_, rfl⟩
 rw [hWwA] at hst hcs ⊢
 have HS := hide (HSg.out.put hst hcs)
 have HO : Hid (OwnS (b + 1) wA (.slice p9 n9 c9) R ∧ OwnN (b + 1) wA (.slice none 0 0) [] ∧ ∀ x ∈ R, x.n.size ≤ 1100000) := hide ⟨ownS_chgO HO9.out hcs (fun k e => by omega), OwnN.nil _ _, HNMS.out⟩
 clear hst hcs hWwA z0 z1 z2 z3 z4 z5
 try clear fb0
 try clear fb1
 try clear fb2
 try clear fb3
 try clear fb4
 obtain ⟨z0, z1, z2, z3, z4, z5⟩ := HS.out.cc.box
 clear e1
 have HCM : Hid (CmAt wA (.slice p9 n9 c9) (.slice none 0 0) ⟨((K : Nat) : Int), ((x : Nat) : Int), ((y : Nat) : Int), 0, R, []⟩) := hide ⟨HO.out.1.sps, HO.out.2.1.ns, HO.out.2.2⟩
 have HMP := hide (rput_any HCM.out)
 unfold cmV at HMP
 dsimp only at HMP
 obtain ⟨XB, hXB⟩ : ∃ xb, Cm.bytes ⟨((K : Nat) : Int), ((x : Nat) : Int), ((y : Nat) : Int), 0, R, []⟩ = xb := ⟨_, rfl⟩
 have HXB := hide hXB
 clear hXB
 go_wp2_with fail
 refine HMP.out.mono ?_
 intro e w7 hp7
 rcases hp7 with ⟨hok, p7, n7, c7, rfl, ho7, hb7⟩ | ⟨hno, rfl, hb7⟩
 case inr =>
  have HS7 := hide (HS.out.below hb7)
  have HOK := hide hno
  clear hno hb7 HMP z0 z1 z2 z3 z4 z5
  have HNO : Hid (getC l = none) := hide (by rw [HG.out]; unfold finR; dsimp only; rw [if_neg (fun h => by rw [HOK.out] at h; cases h.1)])
  obtain ⟨y0, y1, y2, y3, y4, y5⟩ := HS7.out.rr.box
  have fr0 := HS7.out.rr.fr 0
  have fr1 := HS7.out.rr.fr 1
  have fr2 := HS7.out.rr.fr 2
  have fr3 := HS7.out.rr.fr 3
  have fr4 := HS7.out.rr.fr 4
  have fr5 := HS7.out.rr.fr 5
  go_wp2_with fail
  have hst := setC_row HS7.out.rr 0 0 0 0 (.slice none 0 0) (.slice none 0 0)
  have hcs := setC_chg w7 r 0 0 0 0 (.slice none 0 0) (.slice none 0 0)
  unfold setC at hst hcs
  have hcb := Chg.to_below HS7.out.bel hcs (fun k e => by have := HS7.out.lo; omega)
  refine bodyPost_ret (v := .tuple #[.agg #[.int .i64 0, .int .i64 0, .int .i64 0, .int .i64 0, .slice none 0 0, .slice none 0 0], .int .i64 90]) (by
    generalize (((((w7.setCell ⟨r, 0, none⟩ (.int .i64 0)).setCell ⟨r, 1, none⟩ (.int .i64 0)).setCell ⟨r, 2, none⟩ (.int .i64 0)).setCell ⟨r, 3, none⟩ (.int .i64 0)).setCell ⟨r, 4, none⟩ (.slice none 0 0)).setCell ⟨r, 5, none⟩ (.slice none 0 0) = V9 at hst ⊢
    obtain ⟨m0, m1, m2, m3, m4, m5⟩ := hst.box
    simp [results, Tryz.results26, go_sem, m0, m1, m2, m3, m4, m5]) rfl ?_
  rw [HNO.out]
  exact ⟨rfl, hcb⟩
 have HS7 := hide (HS.out.below hb7)
 have HO7 := hide (And.intro (HO.out.1.below hb7) (HO.out.2.1.below hb7))
 have HOK := hide hok
 rw [HXB.out] at ho7
 have HBY := hide ho7
 have HWL : Hid (g < wA.heap.size) := hide HS.out.sc.lt
 have HEND := hide (rend_any HS7.out.sc)
 have HN7 : Hid (n = l.length) := hide HS7.out.by_.len.1
 obtain ⟨EE, hEE⟩ : ∃ x, endX n A E = x := ⟨_, rfl⟩
 rw [hEE] at HEND
 have HEE := hide hEE
 clear hok hb7 ho7 HMP z0 z1 z2 z3 z4 z5 hEE
 go_wp2_with fail
 refine HEND.out.mono ?_
 rintro e w8 ⟨rfl, hs8, hg8⟩
 have HS8 : Hid (RgSt w w8 r g b (.slice p n c) l (A, EE) (((K : Nat) : Int)) (((x : Nat) : Int)) (((y : Nat) : Int)) (0) (.slice p9 n9 c9) (.slice none 0 0)) := hide (HS7.out.next (st' := (A, EE)) hs8 hg8 HS7.out.at_)
 have hc8 := Chg.of_grown hg8 (fun k => k = g) (fun k e => by injection e with e; exact .inl e.symm)
 have HO8 := hide (And.intro (ownS_chgO HO7.out.1 hc8 (fun k e => by have := HS7.out.lo; omega)) (ownN_chgO HO7.out.2 hc8 (fun k e => by have := HS7.out.lo; omega)))
 have HBY8 : Hid (By w8 (.slice p7 n7 c7) XB) := hide (HBY.out.byFar' hc8 (fun k e => by have := HWL.out; omega))
 clear hs8 hg8 hc8 HEND
 by_cases hz : EE = 0
 case neg =>
  have e1 : ((EE : Int) != 0) = true := by simpa using hz
  have HZ := hide hz
  clear hz
  have HNO : Hid (getC l = none) := hide (by
     rw [HG.out]; unfold finR; dsimp only
     refine if_neg fun h => HZ.out ?_
     rw [← HEE.out]; unfold endX
     rw [if_neg (fun q => by have := HN7.out; omega)]; exact h.2.1)
  obtain ⟨y0, y1, y2, y3, y4, y5⟩ := HS8.out.rr.box
  have fr0 := HS8.out.rr.fr 0
  have fr1 := HS8.out.rr.fr 1
  have fr2 := HS8.out.rr.fr 2
  have fr3 := HS8.out.rr.fr 3
  have fr4 := HS8.out.rr.fr 4
  have fr5 := HS8.out.rr.fr 5
  go_wp2_with fail
  have hst := setC_row HS8.out.rr 0 0 0 0 (.slice none 0 0) (.slice none 0 0)
  have hcs := setC_chg w8 r 0 0 0 0 (.slice none 0 0) (.slice none 0 0)
  unfold setC at hst hcs
  have hcb := Chg.to_below HS8.out.bel hcs (fun k e => by have := HS8.out.lo; omega)
  refine bodyPost_ret (v := .tuple #[.agg #[.int .i64 0, .int .i64 0, .int .i64 0, .int .i64 0, .slice none 0 0, .slice none 0 0], .int .i64 90]) (by
    generalize (((((w8.setCell ⟨r, 0, none⟩ (.int .i64 0)).setCell ⟨r, 1, none⟩ (.int .i64 0)).setCell ⟨r, 2, none⟩ (.int .i64 0)).setCell ⟨r, 3, none⟩ (.int .i64 0)).setCell ⟨r, 4, none⟩ (.slice none 0 0)).setCell ⟨r, 5, none⟩ (.slice none 0 0) = V9 at hst ⊢
    obtain ⟨m0, m1, m2, m3, m4, m5⟩ := hst.box
    simp [results, Tryz.results26, go_sem, m0, m1, m2, m3, m4, m5]) rfl ?_
  rw [HNO.out]
  exact ⟨rfl, hcb⟩
 have e1 : ((EE : Int) != 0) = false := by simpa using hz
 have HZ : Hid (E = 0 ∧ A = l.length) := hide (by
  have h1 := HEE.out
  rw [hz] at h1
  unfold endX at h1
  have h3 := HN7.out
  have h4 := HS8.out.at_
  dsimp only at h4
  split at h1
  ·omega
  ·omega)
 clear hz
 have d0 := conv_at HBY8.out
 have d1 := conv_at HS8.out.by_
 by_cases hq : XB = l
 case neg =>
  have heq : ((str XB).toList == (str l).toList) = false := by rw [str_beq]; exact decide_eq_false hq
  have HQ := hide hq
  clear hq
  have HNO : Hid (getC l = none) := hide (by rw [HG.out]; unfold finR; dsimp only; rw [HXB.out]; exact if_neg fun h => HQ.out h.2.2.2)
  obtain ⟨y0, y1, y2, y3, y4, y5⟩ := HS8.out.rr.box
  have fr0 := HS8.out.rr.fr 0
  have fr1 := HS8.out.rr.fr 1
  have fr2 := HS8.out.rr.fr 2
  have fr3 := HS8.out.rr.fr 3
  have fr4 := HS8.out.rr.fr 4
  have fr5 := HS8.out.rr.fr 5
  go_wp2_with fail
  have hst := setC_row HS8.out.rr 0 0 0 0 (.slice none 0 0) (.slice none 0 0)
  have hcs := setC_chg w8 r 0 0 0 0 (.slice none 0 0) (.slice none 0 0)
  unfold setC at hst hcs
  have hcb := Chg.to_below HS8.out.bel hcs (fun k e => by have := HS8.out.lo; omega)
  refine bodyPost_ret (v := .tuple #[.agg #[.int .i64 0, .int .i64 0, .int .i64 0, .int .i64 0, .slice none 0 0, .slice none 0 0], .int .i64 90]) (by
    generalize (((((w8.setCell ⟨r, 0, none⟩ (.int .i64 0)).setCell ⟨r, 1, none⟩ (.int .i64 0)).setCell ⟨r, 2, none⟩ (.int .i64 0)).setCell ⟨r, 3, none⟩ (.int .i64 0)).setCell ⟨r, 4, none⟩ (.slice none 0 0)).setCell ⟨r, 5, none⟩ (.slice none 0 0) = V9 at hst ⊢
    obtain ⟨m0, m1, m2, m3, m4, m5⟩ := hst.box
    simp [results, Tryz.results26, go_sem, m0, m1, m2, m3, m4, m5]) rfl ?_
  rw [HNO.out]
  exact ⟨rfl, hcb⟩
 have heq : ((str XB).toList == (str l).toList) = true := by rw [str_beq]; exact decide_eq_true hq
 have HYES : Hid (getC l = some ⟨((K : Nat) : Int), ((x : Nat) : Int), ((y : Nat) : Int), 0, R, []⟩) := hide (by rw [HG.out]; unfold finR; dsimp only; rw [HXB.out]; exact if_pos ⟨HOK.out, HZ.out.1, HZ.out.2, hq⟩)
 clear hq
 obtain ⟨y0, y1, y2, y3, y4, y5⟩ := HS8.out.rr.box
 obtain ⟨z0, z1, z2, z3, z4, z5⟩ := HS8.out.cc.box
 have fr0 := HS8.out.rr.fr 0
 have fr1 := HS8.out.rr.fr 1
 have fr2 := HS8.out.rr.fr 2
 have fr3 := HS8.out.rr.fr 3
 have fr4 := HS8.out.rr.fr 4
 have fr5 := HS8.out.rr.fr 5
 go_wp2_with fail
 have hst := setC_row HS8.out.rr (((K : Nat) : Int)) (((x : Nat) : Int)) (((y : Nat) : Int)) (0) (.slice p9 n9 c9) (.slice none 0 0)
 have hcs := setC_chg w8 r (((K : Nat) : Int)) (((x : Nat) : Int)) (((y : Nat) : Int)) (0) (.slice p9 n9 c9) (.slice none 0 0)
 unfold setC at hst hcs
 have hcb := Chg.to_below HS8.out.bel hcs (fun k e => by have := HS8.out.lo; omega)
 have ho9 := And.intro (ownS_chgO HO8.out.1 hcs (fun k e => by have := HS8.out.lo; omega)) (ownN_chgO HO8.out.2 hcs (fun k e => by have := HS8.out.lo; omega))
 refine bodyPost_ret (v := .tuple #[.agg #[.int .i64 (((K : Nat) : Int)), .int .i64 (((x : Nat) : Int)), .int .i64 (((y : Nat) : Int)), .int .i64 (0), .slice p9 n9 c9, .slice none 0 0], .int .i64 0]) (by
   generalize (((((w8.setCell ⟨r, 0, none⟩ (.int .i64 ((K : Nat) : Int))).setCell ⟨r, 1, none⟩ (.int .i64 ((x : Nat) : Int))).setCell ⟨r, 2, none⟩ (.int .i64 ((y : Nat) : Int))).setCell ⟨r, 3, none⟩ (.int .i64 0)).setCell ⟨r, 4, none⟩ (.slice p9 n9 c9)).setCell ⟨r, 5, none⟩ (.slice none 0 0) = V9 at hst ⊢
   obtain ⟨m0, m1, m2, m3, m4, m5⟩ := hst.box
   simp [results, Tryz.results26, go_sem, m0, m1, m2, m3, m4, m5]) rfl ?_
 rw [HYES.out]
 have hlo := HS8.out.lo
 exact ⟨_, _, _, _, _, _, rfl, OwnS.mono ho9.1 (by omega), OwnN.mono ho9.2 (by omega), hcb⟩
set_option maxRecDepth 200000 in
set_option maxHeartbeats 16000000 in
theorem rget5_any {w : World} {p : Option Addr} {n c : Nat} {l : List UInt8} (hv : By w (.slice p n c) l) (hl : l.length ≤ 65536) (h2 : (nx l (0, 0)).1 = 5) : Calls Tryz.prog 26 #[.slice p n c] w (GetP w (getC l)) := by
 have hG : getC l = finR l (some (⟨((nx l (0, 0)).1 : Nat), 0, 0, 0, [], (rdN l (min (nx l (nx l (0, 0)).2).1 8) (nx l (nx l (0, 0)).2).2).1⟩, (rdN l (min (nx l (nx l (0, 0)).2).1 8) (nx l (nx l (0, 0)).2).2).2)) := by
  rw [getC_rdR]
  unfold rdR
  rw [if_neg (by omega), if_neg (by omega), if_pos h2, h2]
  rfl
 have hb0 : ∀ k, (Value.slice p n c).ownBlock = some k → l ≠ [] → k < w.heap.size := fun k hk hne => by
  rcases hv.ltM with e | e
  ·exact absurd e hne
  ·exact e k hk
 have hne0 : l = [] ∨ ∀ k, (Value.slice p n c).ownBlock = some k → k < w.heap.size := hv.ltM
 have b1 := (Below.refl w.heap.size w).alloc (Nat.le_refl _) (.cells #[.int .i64 0, .int .i64 0, .int .i64 0, .int .i64 0, .slice none 0 0, .slice none 0 0] 25)
 have b2 := b1.alloc (o := (.cells #[.slice p n c, .int .i64 0, .int .i64 0] 121)) b1.size
 have b3 := b2.alloc (o := (.cells #[.int .i64 0, .int .i64 0, .int .i64 0, .int .i64 0, .slice none 0 0, .slice none 0 0] 25)) b2.size
 have hX0 : (((w.alloc (.cells #[.int .i64 0, .int .i64 0, .int .i64 0, .int .i64 0, .slice none 0 0, .slice none 0 0] 25)).alloc (.cells #[.slice p n c, .int .i64 0, .int .i64 0] 121)).alloc (.cells #[.int .i64 0, .int .i64 0, .int .i64 0, .int .i64 0, .slice none 0 0, .slice none 0 0] 25)).heap.size = w.heap.size + 3 := by simp
 have hs1 : (w.alloc (.cells #[.int .i64 0, .int .i64 0, .int .i64 0, .int .i64 0, .slice none 0 0, .slice none 0 0] 25)).heap.size = w.heap.size + 1 := by simp
 have hs2 : ((w.alloc (.cells #[.int .i64 0, .int .i64 0, .int .i64 0, .int .i64 0, .slice none 0 0, .slice none 0 0] 25)).alloc (.cells #[.slice p n c, .int .i64 0, .int .i64 0] 121)).heap.size = w.heap.size + 2 := by simp
 have r1 : RowC (((w.alloc (.cells #[.int .i64 0, .int .i64 0, .int .i64 0, .int .i64 0, .slice none 0 0, .slice none 0 0] 25)).alloc (.cells #[.slice p n c, .int .i64 0, .int .i64 0] 121)).alloc (.cells #[.int .i64 0, .int .i64 0, .int .i64 0, .int .i64 0, .slice none 0 0, .slice none 0 0] 25)) w.heap.size 0 0 0 0 (.slice none 0 0) (.slice none 0 0) := ((RowC.new (k := 0) (se := 0) (sq := 0) (a := 0) (vs := .slice none 0 0) (vv := .slice none 0 0) w).below ((Below.refl _ _).alloc (Nat.le_refl _) (.cells #[.slice p n c, .int .i64 0, .int .i64 0] 121))).below ((Below.refl _ _).alloc (Nat.le_refl _) (.cells #[.int .i64 0, .int .i64 0, .int .i64 0, .int .i64 0, .slice none 0 0, .slice none 0 0] 25))
 have r2 : Sr (((w.alloc (.cells #[.int .i64 0, .int .i64 0, .int .i64 0, .int .i64 0, .slice none 0 0, .slice none 0 0] 25)).alloc (.cells #[.slice p n c, .int .i64 0, .int .i64 0] 121)).alloc (.cells #[.int .i64 0, .int .i64 0, .int .i64 0, .int .i64 0, .slice none 0 0, .slice none 0 0] 25)) (w.heap.size + 1) (.slice p n c) 0 0 := by
  have h1 : Sr ((w.alloc (.cells #[.int .i64 0, .int .i64 0, .int .i64 0, .int .i64 0, .slice none 0 0, .slice none 0 0] 25)).alloc (.cells #[.slice p n c, .int .i64 0, .int .i64 0] 121)) (w.heap.size + 1) (.slice p n c) 0 0 := by rw [← hs1]; exact heap_alloc_new (w.alloc (.cells #[.int .i64 0, .int .i64 0, .int .i64 0, .int .i64 0, .slice none 0 0, .slice none 0 0] 25)) (.cells #[.slice p n c, .int .i64 0, .int .i64 0] 121)
  exact (((Below.refl _ _).alloc (Nat.le_refl _) (.cells #[.int .i64 0, .int .i64 0, .int .i64 0, .int .i64 0, .slice none 0 0, .slice none 0 0] 25)).block _ h1.lt).trans h1
 have r3 : RowC (((w.alloc (.cells #[.int .i64 0, .int .i64 0, .int .i64 0, .int .i64 0, .slice none 0 0, .slice none 0 0] 25)).alloc (.cells #[.slice p n c, .int .i64 0, .int .i64 0] 121)).alloc (.cells #[.int .i64 0, .int .i64 0, .int .i64 0, .int .i64 0, .slice none 0 0, .slice none 0 0] 25)) (w.heap.size + 2) 0 0 0 0 (.slice none 0 0) (.slice none 0 0) := by rw [← hs2]; exact RowC.new _
 have hst0 : RgSt w (((w.alloc (.cells #[.int .i64 0, .int .i64 0, .int .i64 0, .int .i64 0, .slice none 0 0, .slice none 0 0] 25)).alloc (.cells #[.slice p n c, .int .i64 0, .int .i64 0] 121)).alloc (.cells #[.int .i64 0, .int .i64 0, .int .i64 0, .int .i64 0, .slice none 0 0, .slice none 0 0] 25)) w.heap.size (w.heap.size + 1) (w.heap.size + 2) (.slice p n c) l (0, 0) 0 0 0 0 (.slice none 0 0) (.slice none 0 0) := ⟨r1, r2, r3, hv.below b3, hne0, Nat.zero_le _, by omega, b3⟩
 have HS00 := hide hst0
 obtain ⟨K, hK⟩ : ∃ k, (nx l (0, 0)).1 = k := ⟨_, rfl⟩
 obtain ⟨s1, hs1'⟩ : ∃ s, (nx l (0, 0)).2 = s := ⟨_, rfl⟩
 have hKl := (nx_le (l := l) (st := (0, 0)) (Nat.zero_le _)).2
 rw [hK] at hKl
 have HKS := hide (And.intro hK hs1')
 have HLL := hide hl
 rw [hK, hs1'] at hG
 obtain ⟨N, hx⟩ : ∃ x, (nx l s1).1 = x := ⟨_, rfl⟩
 obtain ⟨s2, hs2⟩ : ∃ x, (nx l s1).2 = x := ⟨_, rfl⟩
 have HXS := hide (And.intro hx hs2)
 obtain ⟨M, hM⟩ : ∃ m, min N 8 = m := ⟨_, rfl⟩
 rw [hx, hs2, hM] at hG
 have HG0 := hide hG
 have HM := hide hM
 rw [hK] at h2
 have e2 : ((K : Int) == 2) = false := by simpa using (show ¬ (K : Int) = 2 by omega)
 have e3 : ((K : Int) == 3) = false := by simpa using (show ¬ (K : Int) = 3 by omega)
 have e4 : ((K : Int) == 4) = false := by simpa using (show ¬ (K : Int) = 4 by omega)
 have e5 : ((K : Int) == 5) = true := by simpa using (show (K : Int) = 5 by omega)
 clear hG hK hs1' h2 hx hs2 hM
 clear hst0 b1 b2 b3 r1 r2 r3 hb0 hne0 hX0 hs1 hs2 hv hl
 go_enter Tryz.func26, Tryz.ntmps26
 go_upto_region 3 with fail
 obtain ⟨X, hX⟩ : ∃ X, ((w.alloc (.cells #[.int .i64 0, .int .i64 0, .int .i64 0, .int .i64 0, .slice none 0 0, .slice none 0 0] 25)).alloc (.cells #[.slice p n c, .int .i64 0, .int .i64 0] 121)).alloc (.cells #[.int .i64 0, .int .i64 0, .int .i64 0, .int .i64 0, .slice none 0 0, .slice none 0 0] 25) = X := ⟨_, rfl⟩
 obtain ⟨r, hr⟩ : ∃ r, w.heap.size = r := ⟨_, rfl⟩
 obtain ⟨g, hg⟩ : ∃ g, r + 1 = g := ⟨_, rfl⟩
 obtain ⟨b, hb⟩ : ∃ b, g + 1 = b := ⟨_, rfl⟩
 have hb2 : r + 2 = b := by omega
 have HS0 := hide HS00.out
 rw [hX, hr, hg, hb2] at HS0
 rw [hX, hr, hg, hb]
 have N1 := hide HS0.out.num
 rw [HKS.out.1, HKS.out.2] at N1
 clear hX hr hg hb hb2 HS00
 obtain ⟨z0, z1, z2, z3, z4, z5⟩ := HS0.out.cc.box
 have fb0 := HS0.out.cc.fr 0
 go_wp2_with fail
 refine N1.out.mono ?_
 rintro e w1 ⟨rfl, h1, hgr⟩
 have HS1 := hide h1
 clear h1 hgr N1 z0 z1 z2 z3 z4 z5 fb0
 obtain ⟨z0, z1, z2, z3, z4, z5⟩ := HS1.out.cc.box
 have fb0 := HS1.out.cc.fr 0
 go_upto_region 4 with fail
 have hst := HS1.out.cc.set0 (K : Nat)
 have hcs := chg_set w1 b 0 (.int .i64 (K : Nat))
 obtain ⟨w2, hWw2⟩ : ∃ X, w1.setCell ⟨b, 0, none⟩ (.int .i64 (K : Nat)) = X := ⟨_, rfl⟩
 rw [hWw2] at hst hcs ⊢
 have HSa := hide (HS1.out.put hst hcs)
 clear hst hcs hWw2 z0 z1 z2 z3 z4 z5
 try clear fb0
 try clear fb1
 try clear fb2
 try clear fb3
 try clear fb4
 obtain ⟨z0, z1, z2, z3, z4, z5⟩ := HSa.out.cc.box
 have N2 := hide HSa.out.num
 rw [HXS.out.1, HXS.out.2] at N2
 have hNl : N < 9223372036854775808 := by have h1 := (nx_le (l := l) (st := s1) HS1.out.at_).2; rw [HXS.out.1] at h1; exact h1
 go_wp2_with fail
 refine N2.out.mono ?_
 rintro e w3 ⟨rfl, h3, hg3⟩
 have HSb := hide h3
 have HW3 : Hid (b + 1 ≤ w3.heap.size) := hide h3.cc.lt
 clear h3 hg3 N2 z0 z1 z2 z3 z4 z5
 go_wp2_with fail
 go_loopw [9] (fun i wr => ∃ (k : Nat) (rr : List Int) (s : Nat × Nat) (q : Option Addr) (m f : Nat), k ≤ M ∧ i = .int .i64 k ∧ Hid (RgSt w wr r g b (.slice p n c) l s ((K : Nat) : Int) 0 0 0 (.slice none 0 0) (.slice q m f) ∧ OwnN (b + 1) wr (.slice q m f) rr ∧ rr.length = k ∧ (rr ++ (rdN l (M - k) s).1, (rdN l (M - k) s).2) = rdN l M s2 ∧ b + 1 ≤ wr.heap.size)) (fun i _ => M - (intOf i).toNat)
 case atStart => exact ⟨0, [], s2, none, 0, 0, by omega, rfl, hide ⟨HSb.out, OwnN.nil _ _, rfl, rfl, HW3.out⟩⟩
 case round =>
  obtain ⟨k, rr, s, qv, mv, fv, hk, rfl, HR⟩ := hrel
  by_cases hlt : k < M
  ·have hkN : (k : Int) < (N : Int) := by have := HM.out; omega
   have hk8 : (k : Int) < 8 := by have := HM.out; omega
   have hkN' : decide (k < N) = true := decide_eq_true (by omega)
   have hk8' : decide ((k : Int) < 8) = true := decide_eq_true hk8
   obtain ⟨x, hx⟩ : ∃ x, (nx l s).1 = x := ⟨_, rfl⟩
   obtain ⟨s5, hs5⟩ : ∃ y, (nx l s).2 = y := ⟨_, rfl⟩
   have hxl := (nx_le (l := l) (st := s) HR.out.1.at_).2
   rw [hx] at hxl
   have hst : rdN l (M - k) s = ((x : Int) :: (rdN l (M - (k + 1)) s5).1, (rdN l (M - (k + 1)) s5).2) := by
    rw [show M - k = (M - (k + 1)) + 1 by omega, rdN, hx, hs5]
   have HST := hide (And.intro hst hxl)
   have HRD := hide (HR.out.1.below (bdrew wr 1))
   have N5 := hide HRD.out.num
   rw [hx, hs5] at N5
   have c5 : wr.cell? ⟨b, 5, none⟩ = some (.slice qv mv fv) := HR.out.1.cc.box.2.2.2.2.2
   have HOR : Hid (OwnN (b + 1) (wr.drewN 1) (.slice qv mv fv) rr) := hide (HR.out.2.1.below (bdrew wr 1))
   have HGB : Hid (g < b + 1) := hide (by have := HR.out.1.lo; omega)
   have HKL : Hid (rr.length ≤ 8) := hide (by have h1 := HR.out.2.2.1; have h2 := HM.out; omega)
   clear hst hxl hx hs5
   go_upto_region 18 with fail
   go_region_law (first | (refine step_pushesN (by rfl) _ _ (by rfl) (by rfl) (by rfl) (by rfl) (by first | exact HOB.out 1 | exact HOB.out 0) (by first | exact HNB.out 1 | exact HNB.out 0) (by have := HWB.out; simp; omega) (by have := HKL.out; simp; omega) ?_; intro v6 V6 ho6 hb6 hg6; obtain ⟨p6, n6, c6, rfl⟩ := ho6.ns.sl; have HS6 : Hid (RgSt w V6 r g b (.slice p n c) l s5 ((K : Nat) : Int) 0 0 0 (.slice none 0 0) (.slice qv mv fv)) := hide (by first | exact HSB.out 1 V6 hb6 | exact HSB.out 0 V6 hb6); have k6 := HS6.out.cc.box.2.2.2.2.2; have f6 := HS6.out.cc.fr 5; have HO6 := hide ho6; have HZ6 : Hid (b + 1 ≤ V6.heap.size) := hide (by have h1 := hb6.size; have h2 := HWB.out; simp at h1; omega); clear ho6 hb6 hg6) | (go_simp; go_at_call 70; refine N5.out.mono ?_; rintro e w5 ⟨rfl, h5, hg5⟩; have HS5 := hide h5; have HWB : Hid (b + 1 ≤ w5.heap.size) := hide h5.cc.lt; have hbA := (Below.refl w5.heap.size w5).alloc (Nat.le_refl _) (.cells #[.int .i64 (x : Int)] 3); have ho5 := HOR.out.grown hg5 (HOR.out.neRow HGB.out); have HOB : Hid (∀ q, OwnN (b + 1) ((w5.alloc (.cells #[.int .i64 (x : Int)] 3)).drewN q) (.slice qv mv fv) rr) := hide (fun q => (ho5.below hbA).below (bdrew _ q)); have HNB : Hid (∀ q, Ns ((w5.alloc (.cells #[.int .i64 (x : Int)] 3)).drewN q) (.slice (some ⟨w5.heap.size, 0, none⟩) 1 1) [(x : Int)]) := hide (fun q => ns_one w5 (x : Int) (by have := HST.out.2; unfold fits; omega)); have HSB : Hid (∀ q V, Below (b + 1) ((w5.alloc (.cells #[.int .i64 (x : Int)] 3)).drewN q) V → RgSt w V r g b (.slice p n c) l s5 ((K : Nat) : Int) 0 0 0 (.slice none 0 0) (.slice qv mv fv)) := hide (fun q V hV => ((h5.below hbA).below (bdrew _ q)).late hV (by omega) (by have := h5.cc.lt; simp; omega)); have c5' : w5.cell? ⟨b, 5, none⟩ = some (.slice qv mv fv) := HS5.out.cc.box.2.2.2.2.2; have c5'' : (w5.alloc (.cells #[.int .i64 (x : Int)] 3)).cell? ⟨b, 5, none⟩ = some (.slice qv mv fv) := (hbA.cell (lt_of_cell HS5.out.cc.box.2.2.2.2.2)).trans HS5.out.cc.box.2.2.2.2.2; clear h5 hg5 ho5 hbA))
   all_goals
    have hst := HS6.out.cc.set5 (.slice p6 n6 c6)
    have hcs := chg_set V6 b 5 (.slice p6 n6 c6)
    obtain ⟨V7, hV7⟩ : ∃ X, V6.setCell ⟨b, 5, none⟩ (.slice p6 n6 c6) = X := ⟨_, rfl⟩
    rw [hV7] at hst hcs ⊢
    have HS7 := hide (HS6.out.put hst hcs)
    have HO7 := hide (ownN_chgO HO6.out hcs (fun k e => by omega))
    have HZ7 : Hid (b + 1 ≤ V7.heap.size) := hide (Nat.le_trans HZ6.out hcs.size)
    clear hst hcs hV7 k6 f6
    go_wp2_with fail
    go_roundw
    case rel =>
     refine ⟨k + 1, rr ++ [(x : Int)], s5, p6, n6, c6, by omega, by go_num, hide ⟨HS7.out, HO7.out, by rw [List.length_append, HR.out.2.2.1]; rfl, ?_, HZ7.out⟩⟩
     have h1 := HR.out.2.2.2.1
     rw [HST.out.1] at h1
     rw [← h1, List.append_assoc]
     rfl
    case measure => simp [intOf]; omega
  ·obtain ⟨A, E⟩ := s
   have HS := hide HR.out.1
   have HG : Hid (getC l = finR l (some (⟨((K : Nat) : Int), 0, 0, 0, [], rr⟩, (A, E)))) := hide (by
    have h1 := HR.out.2.2.2.1
    rw [show M - k = 0 by omega, rdN, List.append_nil] at h1
    rw [HG0.out, ← h1])
   have HO : Hid (OwnS (b + 1) wr (.slice none 0 0) [] ∧ OwnN (b + 1) wr (.slice qv mv fv) rr ∧ ∀ x ∈ ([] : List Sp), x.n.size ≤ 1100000) := hide ⟨OwnS.nil _ _, HR.out.2.1, fun x hx => by cases hx⟩
   by_cases hkN : k < N
   ·have hk8 : ¬ (k : Int) < 8 := by have := HM.out; omega
    have hkN' : decide (k < N) = true := decide_eq_true hkN
    have hk8' : decide ((k : Int) < 8) = false := decide_eq_false hk8
    obtain ⟨z0, z1, z2, z3, z4, z5⟩ := HS.out.cc.box
    have HCM : Hid (CmAt wr (.slice none 0 0) (.slice qv mv fv) ⟨((K : Nat) : Int), 0, 0, 0, [], rr⟩) := hide ⟨HO.out.1.sps, HO.out.2.1.ns, HO.out.2.2⟩
    have HMP := hide (rput_any HCM.out)
    unfold cmV at HMP
    dsimp only at HMP
    obtain ⟨XB, hXB⟩ : ∃ xb, Cm.bytes ⟨((K : Nat) : Int), 0, 0, 0, [], rr⟩ = xb := ⟨_, rfl⟩
    have HXB := hide hXB
    clear hXB
    go_wp2_with fail
    refine HMP.out.mono ?_
    intro e w7 hp7
    rcases hp7 with ⟨hok, p7, n7, c7, rfl, ho7, hb7⟩ | ⟨hno, rfl, hb7⟩
    case inr =>
     have HS7 := hide (HS.out.below hb7)
     have HOK := hide hno
     clear hno hb7 HMP z0 z1 z2 z3 z4 z5
     have HNO : Hid (getC l = none) := hide (by rw [HG.out]; unfold finR; dsimp only; rw [if_neg (fun h => by rw [HOK.out] at h; cases h.1)])
     obtain ⟨y0, y1, y2, y3, y4, y5⟩ := HS7.out.rr.box
     have fr0 := HS7.out.rr.fr 0
     have fr1 := HS7.out.rr.fr 1
     have fr2 := HS7.out.rr.fr 2
     have fr3 := HS7.out.rr.fr 3
     have fr4 := HS7.out.rr.fr 4
     have fr5 := HS7.out.rr.fr 5
     go_wp2_with fail
     have hst := setC_row HS7.out.rr 0 0 0 0 (.slice none 0 0) (.slice none 0 0)
     have hcs := setC_chg w7 r 0 0 0 0 (.slice none 0 0) (.slice none 0 0)
     unfold setC at hst hcs
     have hcb := Chg.to_below HS7.out.bel hcs (fun k e => by have := HS7.out.lo; omega)
     refine bodyPost_ret (v := .tuple #[.agg #[.int .i64 0, .int .i64 0, .int .i64 0, .int .i64 0, .slice none 0 0, .slice none 0 0], .int .i64 90]) (by
       generalize (((((w7.setCell ⟨r, 0, none⟩ (.int .i64 0)).setCell ⟨r, 1, none⟩ (.int .i64 0)).setCell ⟨r, 2, none⟩ (.int .i64 0)).setCell ⟨r, 3, none⟩ (.int .i64 0)).setCell ⟨r, 4, none⟩ (.slice none 0 0)).setCell ⟨r, 5, none⟩ (.slice none 0 0) = V9 at hst ⊢
       obtain ⟨m0, m1, m2, m3, m4, m5⟩ := hst.box
       simp [results, Tryz.results26, go_sem, m0, m1, m2, m3, m4, m5]) rfl ?_
     rw [HNO.out]
     exact ⟨rfl, hcb⟩
    have HS7 := hide (HS.out.below hb7)
    have HO7 := hide (And.intro (HO.out.1.below hb7) (HO.out.2.1.below hb7))
    have HOK := hide hok
    rw [HXB.out] at ho7
    have HBY := hide ho7
    have HWL : Hid (g < wr.heap.size) := hide HS.out.sc.lt
    have HEND := hide (rend_any HS7.out.sc)
    have HN7 : Hid (n = l.length) := hide HS7.out.by_.len.1
    obtain ⟨EE, hEE⟩ : ∃ x, endX n A E = x := ⟨_, rfl⟩
    rw [hEE] at HEND
    have HEE := hide hEE
    clear hok hb7 ho7 HMP z0 z1 z2 z3 z4 z5 hEE
    go_wp2_with fail
    refine HEND.out.mono ?_
    rintro e w8 ⟨rfl, hs8, hg8⟩
    have HS8 : Hid (RgSt w w8 r g b (.slice p n c) l (A, EE) (((K : Nat) : Int)) (0) (0) (0) (.slice none 0 0) (.slice qv mv fv)) := hide (HS7.out.next (st' := (A, EE)) hs8 hg8 HS7.out.at_)
    have hc8 := Chg.of_grown hg8 (fun k => k = g) (fun k e => by injection e with e; exact .inl e.symm)
    have HO8 := hide (And.intro (ownS_chgO HO7.out.1 hc8 (fun k e => by have := HS7.out.lo; omega)) (ownN_chgO HO7.out.2 hc8 (fun k e => by have := HS7.out.lo; omega)))
    have HBY8 : Hid (By w8 (.slice p7 n7 c7) XB) := hide (HBY.out.byFar' hc8 (fun k e => by have := HWL.out; omega))
    clear hs8 hg8 hc8 HEND
    by_cases hz : EE = 0
    case neg =>
     have e1 : ((EE : Int) != 0) = true := by simpa using hz
     have HZ := hide hz
     clear hz
     have HNO : Hid (getC l = none) := hide (by
        rw [HG.out]; unfold finR; dsimp only
        refine if_neg fun h => HZ.out ?_
        rw [← HEE.out]; unfold endX
        rw [if_neg (fun q => by have := HN7.out; omega)]; exact h.2.1)
     obtain ⟨y0, y1, y2, y3, y4, y5⟩ := HS8.out.rr.box
     have fr0 := HS8.out.rr.fr 0
     have fr1 := HS8.out.rr.fr 1
     have fr2 := HS8.out.rr.fr 2
     have fr3 := HS8.out.rr.fr 3
     have fr4 := HS8.out.rr.fr 4
     have fr5 := HS8.out.rr.fr 5
     go_wp2_with fail
     have hst := setC_row HS8.out.rr 0 0 0 0 (.slice none 0 0) (.slice none 0 0)
     have hcs := setC_chg w8 r 0 0 0 0 (.slice none 0 0) (.slice none 0 0)
     unfold setC at hst hcs
     have hcb := Chg.to_below HS8.out.bel hcs (fun k e => by have := HS8.out.lo; omega)
     refine bodyPost_ret (v := .tuple #[.agg #[.int .i64 0, .int .i64 0, .int .i64 0, .int .i64 0, .slice none 0 0, .slice none 0 0], .int .i64 90]) (by
       generalize (((((w8.setCell ⟨r, 0, none⟩ (.int .i64 0)).setCell ⟨r, 1, none⟩ (.int .i64 0)).setCell ⟨r, 2, none⟩ (.int .i64 0)).setCell ⟨r, 3, none⟩ (.int .i64 0)).setCell ⟨r, 4, none⟩ (.slice none 0 0)).setCell ⟨r, 5, none⟩ (.slice none 0 0) = V9 at hst ⊢
       obtain ⟨m0, m1, m2, m3, m4, m5⟩ := hst.box
       simp [results, Tryz.results26, go_sem, m0, m1, m2, m3, m4, m5]) rfl ?_
     rw [HNO.out]
     exact ⟨rfl, hcb⟩
    have e1 : ((EE : Int) != 0) = false := by simpa using hz
    have HZ : Hid (E = 0 ∧ A = l.length) := hide (by
     have h1 := HEE.out
     rw [hz] at h1
     unfold endX at h1
     have h3 := HN7.out
     have h4 := HS8.out.at_
     dsimp only at h4
     split at h1
     ·omega
     ·omega)
    clear hz
    have d0 := conv_at HBY8.out
    have d1 := conv_at HS8.out.by_
    by_cases hq : XB = l
    case neg =>
     have heq : ((str XB).toList == (str l).toList) = false := by rw [str_beq]; exact decide_eq_false hq
     have HQ := hide hq
     clear hq
     have HNO : Hid (getC l = none) := hide (by rw [HG.out]; unfold finR; dsimp only; rw [HXB.out]; exact if_neg fun h => HQ.out h.2.2.2)
     obtain ⟨y0, y1, y2, y3, y4, y5⟩ := HS8.out.rr.box
     have fr0 := HS8.out.rr.fr 0
     have fr1 := HS8.out.rr.fr 1
     have fr2 := HS8.out.rr.fr 2
     have fr3 := HS8.out.rr.fr 3
     have fr4 := HS8.out.rr.fr 4
     have fr5 := HS8.out.rr.fr 5
     go_wp2_with fail
     have hst := setC_row HS8.out.rr 0 0 0 0 (.slice none 0 0) (.slice none 0 0)
     have hcs := setC_chg w8 r 0 0 0 0 (.slice none 0 0) (.slice none 0 0)
     unfold setC at hst hcs
     have hcb := Chg.to_below HS8.out.bel hcs (fun k e => by have := HS8.out.lo; omega)
     refine bodyPost_ret (v := .tuple #[.agg #[.int .i64 0, .int .i64 0, .int .i64 0, .int .i64 0, .slice none 0 0, .slice none 0 0], .int .i64 90]) (by
       generalize (((((w8.setCell ⟨r, 0, none⟩ (.int .i64 0)).setCell ⟨r, 1, none⟩ (.int .i64 0)).setCell ⟨r, 2, none⟩ (.int .i64 0)).setCell ⟨r, 3, none⟩ (.int .i64 0)).setCell ⟨r, 4, none⟩ (.slice none 0 0)).setCell ⟨r, 5, none⟩ (.slice none 0 0) = V9 at hst ⊢
       obtain ⟨m0, m1, m2, m3, m4, m5⟩ := hst.box
       simp [results, Tryz.results26, go_sem, m0, m1, m2, m3, m4, m5]) rfl ?_
     rw [HNO.out]
     exact ⟨rfl, hcb⟩
    have heq : ((str XB).toList == (str l).toList) = true := by rw [str_beq]; exact decide_eq_true hq
    have HYES : Hid (getC l = some ⟨((K : Nat) : Int), 0, 0, 0, [], rr⟩) := hide (by rw [HG.out]; unfold finR; dsimp only; rw [HXB.out]; exact if_pos ⟨HOK.out, HZ.out.1, HZ.out.2, hq⟩)
    clear hq
    obtain ⟨y0, y1, y2, y3, y4, y5⟩ := HS8.out.rr.box
    obtain ⟨z0, z1, z2, z3, z4, z5⟩ := HS8.out.cc.box
    have fr0 := HS8.out.rr.fr 0
    have fr1 := HS8.out.rr.fr 1
    have fr2 := HS8.out.rr.fr 2
    have fr3 := HS8.out.rr.fr 3
    have fr4 := HS8.out.rr.fr 4
    have fr5 := HS8.out.rr.fr 5
    go_wp2_with fail
    have hst := setC_row HS8.out.rr (((K : Nat) : Int)) (0) (0) (0) (.slice none 0 0) (.slice qv mv fv)
    have hcs := setC_chg w8 r (((K : Nat) : Int)) (0) (0) (0) (.slice none 0 0) (.slice qv mv fv)
    unfold setC at hst hcs
    have hcb := Chg.to_below HS8.out.bel hcs (fun k e => by have := HS8.out.lo; omega)
    have ho9 := And.intro (ownS_chgO HO8.out.1 hcs (fun k e => by have := HS8.out.lo; omega)) (ownN_chgO HO8.out.2 hcs (fun k e => by have := HS8.out.lo; omega))
    refine bodyPost_ret (v := .tuple #[.agg #[.int .i64 (((K : Nat) : Int)), .int .i64 (0), .int .i64 (0), .int .i64 (0), .slice none 0 0, .slice qv mv fv], .int .i64 0]) (by
      generalize (((((w8.setCell ⟨r, 0, none⟩ (.int .i64 ((K : Nat) : Int))).setCell ⟨r, 1, none⟩ (.int .i64 0)).setCell ⟨r, 2, none⟩ (.int .i64 0)).setCell ⟨r, 3, none⟩ (.int .i64 0)).setCell ⟨r, 4, none⟩ (.slice none 0 0)).setCell ⟨r, 5, none⟩ (.slice qv mv fv) = V9 at hst ⊢
      obtain ⟨m0, m1, m2, m3, m4, m5⟩ := hst.box
      simp [results, Tryz.results26, go_sem, m0, m1, m2, m3, m4, m5]) rfl ?_
    rw [HYES.out]
    have hlo := HS8.out.lo
    exact ⟨_, _, _, _, _, _, rfl, OwnS.mono ho9.1 (by omega), OwnN.mono ho9.2 (by omega), hcb⟩
   ·have hkN' : decide (k < N) = false := decide_eq_false hkN
    obtain ⟨z0, z1, z2, z3, z4, z5⟩ := HS.out.cc.box
    have HCM : Hid (CmAt wr (.slice none 0 0) (.slice qv mv fv) ⟨((K : Nat) : Int), 0, 0, 0, [], rr⟩) := hide ⟨HO.out.1.sps, HO.out.2.1.ns, HO.out.2.2⟩
    have HMP := hide (rput_any HCM.out)
    unfold cmV at HMP
    dsimp only at HMP
    obtain ⟨XB, hXB⟩ : ∃ xb, Cm.bytes ⟨((K : Nat) : Int), 0, 0, 0, [], rr⟩ = xb := ⟨_, rfl⟩
    have HXB := hide hXB
    clear hXB
    go_wp2_with fail
    refine HMP.out.mono ?_
    intro e w7 hp7
    rcases hp7 with ⟨hok, p7, n7, c7, rfl, ho7, hb7⟩ | ⟨hno, rfl, hb7⟩
    case inr =>
     have HS7 := hide (HS.out.below hb7)
     have HOK := hide hno
     clear hno hb7 HMP z0 z1 z2 z3 z4 z5
     have HNO : Hid (getC l = none) := hide (by rw [HG.out]; unfold finR; dsimp only; rw [if_neg (fun h => by rw [HOK.out] at h; cases h.1)])
     obtain ⟨y0, y1, y2, y3, y4, y5⟩ := HS7.out.rr.box
     have fr0 := HS7.out.rr.fr 0
     have fr1 := HS7.out.rr.fr 1
     have fr2 := HS7.out.rr.fr 2
     have fr3 := HS7.out.rr.fr 3
     have fr4 := HS7.out.rr.fr 4
     have fr5 := HS7.out.rr.fr 5
     go_wp2_with fail
     have hst := setC_row HS7.out.rr 0 0 0 0 (.slice none 0 0) (.slice none 0 0)
     have hcs := setC_chg w7 r 0 0 0 0 (.slice none 0 0) (.slice none 0 0)
     unfold setC at hst hcs
     have hcb := Chg.to_below HS7.out.bel hcs (fun k e => by have := HS7.out.lo; omega)
     refine bodyPost_ret (v := .tuple #[.agg #[.int .i64 0, .int .i64 0, .int .i64 0, .int .i64 0, .slice none 0 0, .slice none 0 0], .int .i64 90]) (by
       generalize (((((w7.setCell ⟨r, 0, none⟩ (.int .i64 0)).setCell ⟨r, 1, none⟩ (.int .i64 0)).setCell ⟨r, 2, none⟩ (.int .i64 0)).setCell ⟨r, 3, none⟩ (.int .i64 0)).setCell ⟨r, 4, none⟩ (.slice none 0 0)).setCell ⟨r, 5, none⟩ (.slice none 0 0) = V9 at hst ⊢
       obtain ⟨m0, m1, m2, m3, m4, m5⟩ := hst.box
       simp [results, Tryz.results26, go_sem, m0, m1, m2, m3, m4, m5]) rfl ?_
     rw [HNO.out]
     exact ⟨rfl, hcb⟩
    have HS7 := hide (HS.out.below hb7)
    have HO7 := hide (And.intro (HO.out.1.below hb7) (HO.out.2.1.below hb7))
    have HOK := hide hok
    rw [HXB.out] at ho7
    have HBY := hide ho7
    have HWL : Hid (g < wr.heap.size) := hide HS.out.sc.lt
    have HEND := hide (rend_any HS7.out.sc)
    have HN7 : Hid (n = l.length) := hide HS7.out.by_.len.1
    obtain ⟨EE, hEE⟩ : ∃ x, endX n A E = x := ⟨_, rfl⟩
    rw [hEE] at HEND
    have HEE := hide hEE
    clear hok hb7 ho7 HMP z0 z1 z2 z3 z4 z5 hEE
    go_wp2_with fail
    refine HEND.out.mono ?_
    rintro e w8 ⟨rfl, hs8, hg8⟩
    have HS8 : Hid (RgSt w w8 r g b (.slice p n c) l (A, EE) (((K : Nat) : Int)) (0) (0) (0) (.slice none 0 0) (.slice qv mv fv)) := hide (HS7.out.next (st' := (A, EE)) hs8 hg8 HS7.out.at_)
    have hc8 := Chg.of_grown hg8 (fun k => k = g) (fun k e => by injection e with e; exact .inl e.symm)
    have HO8 := hide (And.intro (ownS_chgO HO7.out.1 hc8 (fun k e => by have := HS7.out.lo; omega)) (ownN_chgO HO7.out.2 hc8 (fun k e => by have := HS7.out.lo; omega)))
    have HBY8 : Hid (By w8 (.slice p7 n7 c7) XB) := hide (HBY.out.byFar' hc8 (fun k e => by have := HWL.out; omega))
    clear hs8 hg8 hc8 HEND
    by_cases hz : EE = 0
    case neg =>
     have e1 : ((EE : Int) != 0) = true := by simpa using hz
     have HZ := hide hz
     clear hz
     have HNO : Hid (getC l = none) := hide (by
        rw [HG.out]; unfold finR; dsimp only
        refine if_neg fun h => HZ.out ?_
        rw [← HEE.out]; unfold endX
        rw [if_neg (fun q => by have := HN7.out; omega)]; exact h.2.1)
     obtain ⟨y0, y1, y2, y3, y4, y5⟩ := HS8.out.rr.box
     have fr0 := HS8.out.rr.fr 0
     have fr1 := HS8.out.rr.fr 1
     have fr2 := HS8.out.rr.fr 2
     have fr3 := HS8.out.rr.fr 3
     have fr4 := HS8.out.rr.fr 4
     have fr5 := HS8.out.rr.fr 5
     go_wp2_with fail
     have hst := setC_row HS8.out.rr 0 0 0 0 (.slice none 0 0) (.slice none 0 0)
     have hcs := setC_chg w8 r 0 0 0 0 (.slice none 0 0) (.slice none 0 0)
     unfold setC at hst hcs
     have hcb := Chg.to_below HS8.out.bel hcs (fun k e => by have := HS8.out.lo; omega)
     refine bodyPost_ret (v := .tuple #[.agg #[.int .i64 0, .int .i64 0, .int .i64 0, .int .i64 0, .slice none 0 0, .slice none 0 0], .int .i64 90]) (by
       generalize (((((w8.setCell ⟨r, 0, none⟩ (.int .i64 0)).setCell ⟨r, 1, none⟩ (.int .i64 0)).setCell ⟨r, 2, none⟩ (.int .i64 0)).setCell ⟨r, 3, none⟩ (.int .i64 0)).setCell ⟨r, 4, none⟩ (.slice none 0 0)).setCell ⟨r, 5, none⟩ (.slice none 0 0) = V9 at hst ⊢
       obtain ⟨m0, m1, m2, m3, m4, m5⟩ := hst.box
       simp [results, Tryz.results26, go_sem, m0, m1, m2, m3, m4, m5]) rfl ?_
     rw [HNO.out]
     exact ⟨rfl, hcb⟩
    have e1 : ((EE : Int) != 0) = false := by simpa using hz
    have HZ : Hid (E = 0 ∧ A = l.length) := hide (by
     have h1 := HEE.out
     rw [hz] at h1
     unfold endX at h1
     have h3 := HN7.out
     have h4 := HS8.out.at_
     dsimp only at h4
     split at h1
     ·omega
     ·omega)
    clear hz
    have d0 := conv_at HBY8.out
    have d1 := conv_at HS8.out.by_
    by_cases hq : XB = l
    case neg =>
     have heq : ((str XB).toList == (str l).toList) = false := by rw [str_beq]; exact decide_eq_false hq
     have HQ := hide hq
     clear hq
     have HNO : Hid (getC l = none) := hide (by rw [HG.out]; unfold finR; dsimp only; rw [HXB.out]; exact if_neg fun h => HQ.out h.2.2.2)
     obtain ⟨y0, y1, y2, y3, y4, y5⟩ := HS8.out.rr.box
     have fr0 := HS8.out.rr.fr 0
     have fr1 := HS8.out.rr.fr 1
     have fr2 := HS8.out.rr.fr 2
     have fr3 := HS8.out.rr.fr 3
     have fr4 := HS8.out.rr.fr 4
     have fr5 := HS8.out.rr.fr 5
     go_wp2_with fail
     have hst := setC_row HS8.out.rr 0 0 0 0 (.slice none 0 0) (.slice none 0 0)
     have hcs := setC_chg w8 r 0 0 0 0 (.slice none 0 0) (.slice none 0 0)
     unfold setC at hst hcs
     have hcb := Chg.to_below HS8.out.bel hcs (fun k e => by have := HS8.out.lo; omega)
     refine bodyPost_ret (v := .tuple #[.agg #[.int .i64 0, .int .i64 0, .int .i64 0, .int .i64 0, .slice none 0 0, .slice none 0 0], .int .i64 90]) (by
       generalize (((((w8.setCell ⟨r, 0, none⟩ (.int .i64 0)).setCell ⟨r, 1, none⟩ (.int .i64 0)).setCell ⟨r, 2, none⟩ (.int .i64 0)).setCell ⟨r, 3, none⟩ (.int .i64 0)).setCell ⟨r, 4, none⟩ (.slice none 0 0)).setCell ⟨r, 5, none⟩ (.slice none 0 0) = V9 at hst ⊢
       obtain ⟨m0, m1, m2, m3, m4, m5⟩ := hst.box
       simp [results, Tryz.results26, go_sem, m0, m1, m2, m3, m4, m5]) rfl ?_
     rw [HNO.out]
     exact ⟨rfl, hcb⟩
    have heq : ((str XB).toList == (str l).toList) = true := by rw [str_beq]; exact decide_eq_true hq
    have HYES : Hid (getC l = some ⟨((K : Nat) : Int), 0, 0, 0, [], rr⟩) := hide (by rw [HG.out]; unfold finR; dsimp only; rw [HXB.out]; exact if_pos ⟨HOK.out, HZ.out.1, HZ.out.2, hq⟩)
    clear hq
    obtain ⟨y0, y1, y2, y3, y4, y5⟩ := HS8.out.rr.box
    obtain ⟨z0, z1, z2, z3, z4, z5⟩ := HS8.out.cc.box
    have fr0 := HS8.out.rr.fr 0
    have fr1 := HS8.out.rr.fr 1
    have fr2 := HS8.out.rr.fr 2
    have fr3 := HS8.out.rr.fr 3
    have fr4 := HS8.out.rr.fr 4
    have fr5 := HS8.out.rr.fr 5
    go_wp2_with fail
    have hst := setC_row HS8.out.rr (((K : Nat) : Int)) (0) (0) (0) (.slice none 0 0) (.slice qv mv fv)
    have hcs := setC_chg w8 r (((K : Nat) : Int)) (0) (0) (0) (.slice none 0 0) (.slice qv mv fv)
    unfold setC at hst hcs
    have hcb := Chg.to_below HS8.out.bel hcs (fun k e => by have := HS8.out.lo; omega)
    have ho9 := And.intro (ownS_chgO HO8.out.1 hcs (fun k e => by have := HS8.out.lo; omega)) (ownN_chgO HO8.out.2 hcs (fun k e => by have := HS8.out.lo; omega))
    refine bodyPost_ret (v := .tuple #[.agg #[.int .i64 (((K : Nat) : Int)), .int .i64 (0), .int .i64 (0), .int .i64 (0), .slice none 0 0, .slice qv mv fv], .int .i64 0]) (by
      generalize (((((w8.setCell ⟨r, 0, none⟩ (.int .i64 ((K : Nat) : Int))).setCell ⟨r, 1, none⟩ (.int .i64 0)).setCell ⟨r, 2, none⟩ (.int .i64 0)).setCell ⟨r, 3, none⟩ (.int .i64 0)).setCell ⟨r, 4, none⟩ (.slice none 0 0)).setCell ⟨r, 5, none⟩ (.slice qv mv fv) = V9 at hst ⊢
      obtain ⟨m0, m1, m2, m3, m4, m5⟩ := hst.box
      simp [results, Tryz.results26, go_sem, m0, m1, m2, m3, m4, m5]) rfl ?_
    rw [HYES.out]
    have hlo := HS8.out.lo
    exact ⟨_, _, _, _, _, _, rfl, OwnS.mono ho9.1 (by omega), OwnN.mono ho9.2 (by omega), hcb⟩
theorem rget_any {w : World} {v : Value} {l : List UInt8} (hv : By w v l) (hl : l.length ≤ 65536) : Calls Tryz.prog 26 #[v] w (GetP w (getC l)) := by
 obtain ⟨p, n, c, rfl⟩ := hv.sl
 by_cases h2 : (nx l (0, 0)).1 = 2
 ·exact rget2_any hv hl h2
 by_cases h3 : (nx l (0, 0)).1 = 3
 ·exact rget3_any hv hl h3
 by_cases h4 : (nx l (0, 0)).1 = 4
 ·exact rget4_any hv hl h4
 by_cases h5 : (nx l (0, 0)).1 = 5
 ·exact rget5_any hv hl h5
 exact rgetO_any hv hl h2 h3 h4 h5
end Go.Proofs.YtionbmlicmibgaaGreatDoor
namespace Go.Proofs.YtionbmlicmibgaaGreatDoor
set_option linter.unusedVariables false
set_option linter.unusedSimpArgs false
open Go.RowKit
set_option maxRecDepth 200000 in
set_option maxHeartbeats 16000000 in
theorem lawMGets_any {w : World} (hE : ErrT w) {p : Option Addr} {n c : Nat} {l : List UInt8} (hb : By w (.slice p n c) l) : Calls Tryz.prog 4 #[.slice p n c] w fun e w' => e = .returned (.bool true) ∧ Below w.heap.size w w' := by
 have HE := hide hE
 have HBY := hide hb
 have HNB := hide hb.len.1
 have hb9 := hb.lenMax
 clear hE hb
 go_enter Tryz.func4, Tryz.ntmps4
 by_cases hl : 32768 < (n : Int)
 ·have e2 : decide (32768 < (n : Int)) = true := decide_eq_true hl
  go_wp2_with fail
  refine (mawake_any HE.out).mono ?_
  rintro e wz ⟨rfl, hbz⟩
  go_wp2_with fail
  go_ret
  exact ⟨rfl, hbz⟩
 ·have e2 : decide (32768 < (n : Int)) = false := decide_eq_false hl
  have HLB : Hid (l.length ≤ 32768) := hide (by have := HNB.out; omega)
  go_wp2_with fail
  refine (cloneB_any HBY.out (by have := HLB.out; omega)).mono ?_
  rintro e w1 ⟨p1, n1, c1, rfl, ho1, hb1⟩
  have HB1 : Hid (Below w.heap.size w w1) := hide hb1
  have HO1 := hide ho1.by_
  clear ho1 hb1
  have HG := hide (mget_any HO1.out (by have := HLB.out; omega))
  have HR := hide (fun (U : World) (hU : Below w.heap.size w U) => rget_any (HBY.out.below hU) (by have := HLB.out; omega))
  obtain ⟨gc, hgc⟩ : ∃ g, getC l = g := ⟨_, rfl⟩
  rw [hgc] at HG HR
  cases gc with
  | none =>
   clear hgc
   go_wp2_with fail
   refine HG.out.mono ?_
   rintro e w2 ⟨rfl, hb⟩
   have HB2 : Hid (Below w.heap.size w w2) := hide (bthen HB1.out hb)
   have HO2 := hide (HO1.out.below hb)
   clear hb
   unfold cmV cm0
   dsimp only
   have hbA := (Below.refl w2.heap.size w2).alloc (Nat.le_refl _) (.cells #[.int .i64 0, .int .i64 0, .int .i64 0, .int .i64 0, .slice none 0 0, .slice none 0 0] 25)
   have HBA := hide hbA
   have HRA := hide (HR.out _ (bthen HB2.out hbA))
   have HBX := hide (BoxC.new w2 0 0 0 0 (.slice none 0 0) (.slice none 0 0))
   clear hbA
   go_wp2_with fail
   refine HRA.out.mono ?_
   rintro e w3 ⟨rfl, hb⟩
   unfold cmV cm0
   dsimp only
   have hb3 := (Below.refl w3.heap.size w3).alloc (Nat.le_refl _) (.cells #[.int .i64 0, .int .i64 0, .int .i64 0, .int .i64 0, .slice none 0 0, .slice none 0 0] 25)
   have HB3 := hide (bthen HBA.out (bthen hb hb3))
   have HB3w := hide (bthen HB2.out HB3.out)
   obtain ⟨x0, x1, x2, x3, x4, x5⟩ := HBX.out.below (bthen hb hb3)
   clear hb hb3 HRA
   go_wp2_with fail
   refine (same_true (Sps.nil _) (Sps.nil _) (Ns.nil _) (Ns.nil _)).mono ?_
   rintro e w9 ⟨rfl, hb⟩
   have HB9 := hide (bthen HB3w.out hb)
   have HEQ := hide (equal_any (HO2.out.below (bthen HB3.out hb)) (HBY.out.below HB9.out))
   rw [beq_self_eq_true] at HEQ
   clear hb
   go_wp2_with fail
   refine HEQ.out.mono ?_
   rintro e wA ⟨rfl, rfl⟩
   go_wp2_with fail
   refine (mawake_any (HE.out.below HB9.out)).mono ?_
   rintro e wz ⟨rfl, hbz⟩
   go_wp2_with fail
   go_ret
   exact ⟨rfl, bthen HB9.out hbz⟩
  | some gc =>
   obtain ⟨k, se, sq, a, sp, vo⟩ := gc
   clear hgc
   go_wp2_with fail
   refine HG.out.mono ?_
   rintro e w2 ⟨gp, gn, gd, gq, gm, gf, rfl, hos, hon, hb⟩
   have HB2 : Hid (Below w.heap.size w w2) := hide (bthen HB1.out hb)
   have HO2 := hide (HO1.out.below hb)
   have HCX := hide (And.intro hos.sps hon.ns)
   clear hb hos hon
   unfold cmV
   dsimp only
   have hbA := (Below.refl w2.heap.size w2).alloc (Nat.le_refl _) (.cells #[.int .i64 k, .int .i64 se, .int .i64 sq, .int .i64 a, .slice gp gn gd, .slice gq gm gf] 25)
   have HBA := hide hbA
   have HRA := hide (HR.out _ (bthen HB2.out hbA))
   have HBX := hide (BoxC.new w2 k se sq a (.slice gp gn gd) (.slice gq gm gf))
   clear hbA
   go_wp2_with fail
   refine HRA.out.mono ?_
   rintro e w3 ⟨fp, fn, fd, fq, fm, ff, rfl, hos, hon, hb⟩
   unfold cmV
   dsimp only
   have hb3 := (Below.refl w3.heap.size w3).alloc (Nat.le_refl _) (.cells #[.int .i64 k, .int .i64 se, .int .i64 sq, .int .i64 a, .slice fp fn fd, .slice fq fm ff] 25)
   have HB3 := hide (bthen HBA.out (bthen hb hb3))
   have HB3w := hide (bthen HB2.out HB3.out)
   have HSA := hide (same_true (k := k) (se := se) (sq := sq) (a := a) (HCX.out.1.below HB3.out) (hos.sps.below hb3) (HCX.out.2.below HB3.out) (hon.ns.below hb3))
   obtain ⟨x0, x1, x2, x3, x4, x5⟩ := HBX.out.below (bthen hb hb3)
   clear hb hb3 HRA hos hon
   go_wp2_with fail
   refine HSA.out.mono ?_
   rintro e w9 ⟨rfl, hb⟩
   have HB9 := hide (bthen HB3w.out hb)
   have HEQ := hide (equal_any (HO2.out.below (bthen HB3.out hb)) (HBY.out.below HB9.out))
   rw [beq_self_eq_true] at HEQ
   clear hb
   go_wp2_with fail
   refine HEQ.out.mono ?_
   rintro e wA ⟨rfl, rfl⟩
   go_wp2_with fail
   refine (mawake_any (HE.out.below HB9.out)).mono ?_
   rintro e wz ⟨rfl, hbz⟩
   go_wp2_with fail
   go_ret
   exact ⟨rfl, bthen HB9.out hbz⟩
end Go.Proofs.YtionbmlicmibgaaGreatDoor
namespace Go.Proofs.YtionbmlicmibgaaGreatDoor.machineGets
open Go.ChangeShapes Go.WideShapes Go.ChangeAt Go.RowKit
open Go.ChangeMaps (open_string shut_string)
set_option linter.unusedVariables false

theorem laidOut : laidOutB Tryz.prog = true := by kernel_rfl

set_option maxRecDepth 100000 in
theorem lifted (os : Os) (started : os.Started) (H : Type) (enc : TypeId × Value → H) :
  ReturnsInHanded {} Tryz.checked os 4 .any (fun w args => (Rows.machineGetsSpec.pre enc Tryz.prog Tryz.f4 [] false w args ∧ laidMetH Tryz.prog laidL w) ∧ sizedMet enc Tryz.prog Tryz.f4 (OpenSpec.ofChange Rows.machineGetsSpec) false w args)
   (Rows.machineGetsSpec.post enc Tryz.prog Tryz.f4 false true false false) := by
 refine returnsInHanded_of_change_and (C := Tryz.checked) (X := fun w _ => laidMetH Tryz.prog laidL w) (fun _ _ _ hh h => h.of_heap hh) Tryz.own started (by kernel_rfl) Tryz.func4
  (ChangeSpec.witness_at (enc := enc) (C := Tryz.checked) (os := os) (X := fun w _ => laidMetH Tryz.prog laidL w) false (laidWorld os) #[.slice none 0 0] 8 rfl (by kernel_rfl) (by kernel_rfl) (by kernel_rfl) (by kernel_rfl) (by kernel_rfl) (laidWorld_met os _)) ?_
 intro W base args ds gs before hval0 hW hcnd hsz0 hL _
 have hErr := errT_of_laid hL
 have hval : ∀ (j : Nat) t v, Tryz.f4.params[j]? = some t → args[j]? = some v → Value.okWide Tryz.prog W .any base t v := hval0
 have hW' := hW
 obtain ⟨p, q, hA0, hV, rfl, hfz, hnd⟩ := hW
 have hA : DataW.TrodAll enc Tryz.prog W 0 (fun _ => true) true Tryz.f4.params.toList args.toList ds p := hA0
 rw [Tryz.params4] at hA hval
 obtain ⟨v0, vs0, d0, ds0, p0, q0, hargs, rfl, rfl, h0, r0⟩ := trodAll_cons hA
 obtain ⟨rfl, rfl, rfl⟩ := trodAll_nil r0
 obtain rfl : args = #[v0] := by cases args; simp_all
 obtain ⟨rfl, rfl⟩ := trodVars_none hV
 obtain ⟨a0, len0, cap0, rfl⟩ := okWide_slice Tryz.underlying32 (hval 0 32 v0 rfl rfl)
 have k0 := h0
 have lt0 : ∀ x ∈ p0, x.block < W.heap.size := by obtain ⟨m, hm⟩ := k0; exact DataW.trod_lt m _ _ _ hm
 obtain ⟨l0, _, hb0⟩ := by_of_arg h0
 clear hA0 hval0
 refine (lawMGets_any hErr hb0).mono fun e W' ⟨he, bel⟩ => ?_
 subst he
 exact ⟨_, rfl, _, _, _, [], _, [], hW', trodAll_mk1 (shut_bool Tryz.underlying4 _), (trodAll_cons_mk (Below.trod laidOut (by kernel_rfl) (of_decide_eq_true (by kernel_rfl)) k0 bel lt0) trodAll_mk0), rfl, bel.frame _, fun h => by cases h⟩

set_option maxHeartbeats 16000000 in
theorem cl : joinedFacts Tryz.pinned.checked.prog 4 Tryz.f4 Rows.machineGetsSpec Rows.machineGetsRow = true := by
 unfold joinedFacts
 simp only [Bool.and_eq_true]
 repeat' apply And.intro
 all_goals (as_aux_lemma => kernel_rfl)
theorem fnm : Tryz.pinned.checked.prog.funcNamed Rows.machineGetsRow.func = some 4 := by kernel_rfl
theorem inst : Tryz.f4.isInstance Tryz.pinned.checked.prog Rows.machineGetsRow.origin Rows.machineGetsRow.targs := of_decide_eq_true (by kernel_rfl)
theorem wr : Tryz.f4.isWrapper Tryz.pinned.checked.prog Rows.machineGetsRow.wrapper Rows.machineGetsRow.mainSum := by unfold Func.isWrapper; first | (rw [if_pos (by decide +kernel)]; kernel_rfl) | (rw [if_neg (by decide +kernel)]; exact ⟨rfl, rfl⟩)
theorem lf (os : Os) (started : os.Started) (H : Type) (enc : TypeId × Value → H) : ReturnsInHanded Rows.machineGetsRow.assume Tryz.pinned.checked os 4 .any (Rows.machineGetsRow.pre enc Tryz.pinned.checked.prog Tryz.f4 (OpenSpec.ofChange Rows.machineGetsSpec)) (Rows.machineGetsSpec.post enc Tryz.pinned.checked.prog Tryz.f4 Rows.machineGetsRow.apart Rows.machineGetsRow.fresh Rows.machineGetsRow.handsOn Rows.machineGetsRow.again) := lifted os started H enc
theorem over : Rows.MachineGetsSaid :=
 OpenClaim.holds_of_wide 4 Tryz.f4 rfl rfl rfl rfl rfl rfl rfl ⟨rfl, rfl, rfl, rfl, rfl⟩ rfl rfl rfl rfl rfl fnm Tryz.func4 cl inst wr (fun os started H enc _ => lf os started H enc)
theorem named : Tryz.prog.funcNamed "spandrel/spandrellaw09.MachineGets" = some 4 := by kernel_rfl
theorem noStand : ∀ t ∈ [32], Tryz.prog.wantsStandIn t = false := by
 intro t ht
 simp only [List.mem_cons, List.not_mem_nil, or_false] at ht
 rcases ht with rfl <;> kernel_rfl

theorem proved : Rows.MachineGetsCardSaid :=
 Claim7.holds_tied_plain_at .later [] [.handle] true (true, "73e4509f8480c2613f465c6520d6329ec038b933e0a1ed9711b57278fe54956a") true
  over (fun _ h => by cases h) (by kernel_rfl) (fun _ h => by cases h) machineGets_row_tie rfl ⟨rfl, rfl⟩ (by kernel_rfl) rfl
  (fun f fn hf hfn => by
   obtain rfl : f = 4 := Option.some.inj (named.symm.trans hf) |>.symm
   obtain rfl : fn = Tryz.f4 := (Option.some.inj (Tryz.func4.symm.trans hfn)).symm
   exact ⟨by kernel_rfl, fun j t ht => by
    rw [Tryz.params4] at ht
    exact noStand t (by
     have := Array.mem_of_getElem? ht
     simpa using this)⟩)
  (by kernel_rfl)
end Go.Proofs.YtionbmlicmibgaaGreatDoor.machineGets
