/- What fromTop gathers: roots, orphans, and what stands beneath whom. -/
import Derived.Test.YtimjplkehlgelaaGreatFUnfold
import Derived.Test.YtimjplkehlgelaaGreatFRange
import Derived.Deep.AppendLies
namespace Go.Proofs.YtimjplkehlgelaaGreat
set_option linter.unusedVariables false
set_option linter.unusedSimpArgs false
open Go.RowKit

/-- Beneath j, of the first spans P of those of L. -/
def Uof (L P : List Sp) (j : Int) : List Sp := if j = 0 ∨ fnd L j = none then [] else kids P j
def rootsB (P : List Sp) : List Br := (roots P).map fun s => ⟨0, false, s⟩
def orphsB (L P : List Sp) : List Br := (P.filter fun x => !(x.p == 0) && !(fnd L x.p).isSome).map fun s => ⟨0, true, s⟩
theorem kids_snoc (P : List Sp) (y : Sp) (j : Int) : kids (P ++ [y]) j = kids P j ++ if y.p = j then [y] else [] := by
  unfold kids
  rw [List.filter_append]
  congr 1
  by_cases h : y.p = j
  · rw [if_pos h, List.filter_cons_of_pos (by simpa using h)]; rfl
  · rw [if_neg h, List.filter_cons_of_neg (by simpa using h)]; rfl
theorem rootsB_snoc (P : List Sp) (y : Sp) : rootsB (P ++ [y]) = rootsB P ++ if y.p = 0 then [⟨0, false, y⟩] else [] := by
  unfold rootsB
  rw [show roots (P ++ [y]) = kids (P ++ [y]) 0 from rfl, kids_snoc, List.map_append, show kids P 0 = roots P from rfl]
  congr 1
  split <;> rfl
theorem orphsB_snoc (L P : List Sp) (y : Sp) : orphsB L (P ++ [y]) = orphsB L P ++ if y.p ≠ 0 ∧ fnd L y.p = none then [⟨0, true, y⟩] else [] := by
  unfold orphsB
  rw [List.filter_append, List.map_append]
  congr 1
  by_cases h : y.p ≠ 0 ∧ fnd L y.p = none
  · rw [if_pos h, List.filter_cons_of_pos (by simp [h.1, h.2])]; rfl
  · rw [if_neg h, List.filter_cons_of_neg (by
      intro hh
      rw [Bool.and_eq_true, Bool.not_eq_true', Bool.not_eq_true', beq_eq_false_iff_ne, Option.isSome_eq_false_iff, Option.isNone_iff_eq_none] at hh
      exact h hh)]; rfl
theorem Uof_root {L P : List Sp} {y : Sp} (h : y.p = 0 ∨ fnd L y.p = none) : Uof L (P ++ [y]) = Uof L P := by
  funext j
  unfold Uof
  by_cases hj : j = 0 ∨ fnd L j = none
  · rw [if_pos hj, if_pos hj]
  · rw [if_neg hj, if_neg hj, kids_snoc, if_neg (by rintro rfl; exact hj h), List.append_nil]
theorem Uof_kid {L P : List Sp} {y : Sp} (h : ¬ (y.p = 0 ∨ fnd L y.p = none)) : Uof L (P ++ [y]) = fun j => if j = y.p then Uof L P y.p ++ [y] else Uof L P j := by
  funext j
  by_cases e : j = y.p
  · subst e
    rw [if_pos rfl]
    unfold Uof
    rw [if_neg h, if_neg h, kids_snoc, if_pos rfl]
  · rw [if_neg e]
    unfold Uof
    rw [kids_snoc, show (if y.p = j then [y] else []) = [] from if_neg fun h => e h.symm, List.append_nil]

theorem BagIs.chg {w w' : World} {b : Nat} {L : List Sp} {D : DataW Value} {T : Nat → Prop} (h : BagIs w b L D) (hc : Chg w w' T) (hb : ¬ T b) : BagIs w' b L D := by
  have hlt := h.map.lt
  obtain ⟨es, clock, h1, rest⟩ := h.map
  exact ⟨⟨es, clock, (hc.block b hlt hb).trans h1, rest⟩, h.size, h.keys, h.vals, h.ids⟩

/-- What stands while fromTop gathers: w1 is the world behind the sort. -/
structure TopInv (w1 w : World) (bU : Nat) (vR vO : Value) (R O : List Br) (U : Int → List Sp) (V : Int → Value) (D : DataW Value) : Prop where
  chg : Chg w1 w fun k => k = bU
  r : OwnB w1.heap.size w vR R
  o : OwnB w1.heap.size w vO O
  u : UndIs w w1.heap.size bU U V D
  bu : bU < w1.heap.size
  ro : ∀ i, vR.ownBlock = some i → vO.ownBlock ≠ some i
  rU : ∀ i, vR.ownBlock = some i → UndOff bU V D i
  oU : ∀ i, vO.ownBlock = some i → UndOff bU V D i

theorem chg_grown {w1 w w' : World} {T : Nat → Prop} {row : Option Nat} (h : Chg w1 w T) (hg : w.grownBy w' row) (hr : ∀ i, row = some i → T i ∨ w1.heap.size ≤ i) : Chg w1 w' T :=
  h.trans (Chg.of_grown hg (fun k => row = some k) fun k e => .inl e) fun k e => hr k e
theorem TopInv.alloc {w1 w : World} {bU : Nat} {vR vO : Value} {R O : List Br} {U : Int → List Sp} {V : Int → Value} {D : DataW Value} (h : TopInv w1 w bU vR vO R O U V D) (o : Obj) : TopInv w1 (w.alloc o) bU vR vO R O U V D :=
  ⟨h.chg.alloc o, World.ownsRow.alloc h.r o, World.ownsRow.alloc h.o o, h.u.grown (World.grownBy_alloc w o none) (fun i e => by cases e), h.bu, h.ro, h.rU, h.oU⟩
theorem TopInv.setR {w1 w w' : World} {bU : Nat} {vR vO vR' : Value} {R R' O : List Br} {U : Int → List Sp} {V : Int → Value} {D : DataW Value} (h : TopInv w1 w bU vR vO R O U V D) (ho : OwnB w1.heap.size w' vR' R') (he : Ext2 w vR w' vR') : TopInv w1 w' bU vR' vO R' O U V D := by
  have hu := h.u.ext he h.rU
  refine ⟨chg_grown h.chg he.1 fun i hi => .inr (h.r.lt i hi).1, ho, h.o.grown he.1 ?_, hu.1, h.bu, fun i hi => ?_, hu.2, h.oU⟩
  · rcases hvo : vO.ownBlock with _ | j
    · exact .inl rfl
    · exact .inr fun e => h.ro j e.symm hvo
  · rcases he.2 with e | ⟨j, hj, e⟩
    · rw [e] at hi
      exact h.ro i hi
    · rw [e] at hi
      injection hi with hi
      subst hi
      intro e2
      have := (h.o.lt _ e2).2
      omega
theorem TopInv.setO {w1 w w' : World} {bU : Nat} {vR vO vO' : Value} {R O O' : List Br} {U : Int → List Sp} {V : Int → Value} {D : DataW Value} (h : TopInv w1 w bU vR vO R O U V D) (ho : OwnB w1.heap.size w' vO' O') (he : Ext2 w vO w' vO') : TopInv w1 w' bU vR vO' R O' U V D := by
  have hu := h.u.ext he h.oU
  refine ⟨chg_grown h.chg he.1 fun i hi => .inr (h.o.lt i hi).1, h.r.grown he.1 ?_, ho, hu.1, h.bu, fun i hi => ?_, h.rU, hu.2⟩
  · rcases hvo : vR.ownBlock with _ | j
    · exact .inl rfl
    · exact .inr fun e => h.ro j hvo e.symm
  · rcases he.2 with e | ⟨j, hj, e⟩
    · rw [e]
      exact h.ro i hi
    · rw [e]
      intro e2
      injection e2 with e2
      subst e2
      have := (h.r.lt _ hi).2
      omega
set_option maxRecDepth 20000 in
theorem TopInv.push {w1 Y : World} {bU : Nat} {vR vO : Value} {R O : List Br} {U : Int → List Sp} {V : Int → Value} {D : DataW Value} (h : TopInv w1 Y bU vR vO R O U V D) {k : Int} (hk : (Lit.int .i64 k).wf = true) (y : Sp) (hN : Maps.size D ≤ 1000) :
    ∃ p c, (∀ W : World, W.ownsMap Tryz.prog 3 heldS bU (Maps.size D) D → (Instr.lookup 140 (.map (some bU)) (.int .i64 k) false).run Tryz.prog W = .ok (.slice p (U k).length c) W) ∧ OwnS w1.heap.size Y (.slice p (U k).length c) (U k) ∧ (∀ i, (Value.slice p (U k).length c).ownBlock = some i → i ≠ bU ∧ w1.heap.size ≤ i ∧ i < Y.heap.size) ∧ (Maps.has D (.int .i64 k) = true ∧ Value.slice p (U k).length c = V k ∨ Maps.has D (.int .i64 k) = false ∧ Value.slice p (U k).length c = .slice none 0 0) ∧
      ∀ (o : Obj) (gg cap : Nat) (w2 : World), w2.ownsRow w1.heap.size 38 6 (.slice (some ⟨gg, 0, none⟩) ((U k).length + 1) cap) ((U k).length + 1) ((U k).flatMap spC ++ spC y) → ((Y.alloc o).drew).grownBy w2 (Value.slice p (U k).length c).ownBlock → ((Value.slice p (U k).length c).ownBlock = some gg ∨ gg = Y.heap.size + 1) →
        ∃ w3 V3 D3, (Instr.mapUpdate 140 (.map (some bU)) (.int .i64 k) (.slice (some ⟨gg, 0, none⟩) ((U k).length + 1) cap)).run Tryz.prog w2 = .ok () w3 ∧ TopInv w1 w3 bU vR vO R O (fun j => if j = k then U k ++ [y] else U j) V3 D3 ∧ Maps.size D3 ≤ Maps.size D + 1 ∧ w2.grownBy w3 (some bU) := by
  obtain ⟨v, hlk, hov, hvv⟩ := h.u.look2 hk
  obtain ⟨p, n, c, rfl⟩ := hov.sps.sl
  obtain rfl : n = (U k).length := hov.sps.len.1
  have hoff : ∀ i, (Value.slice p (U k).length c).ownBlock = some i → i ≠ bU ∧ (∀ j, j = vR.ownBlock ∨ j = vO.ownBlock → j ≠ some i) := fun i hi => by
    rcases hvv with ⟨hh, e⟩ | ⟨hh, e⟩
    · rw [e] at hi
      refine ⟨h.u.blk k i hh hi, fun j hj ej => ?_⟩
      subst ej
      rcases hj with hj | hj
      · exact (h.rU i hj.symm).2 k hh hi
      · exact (h.oU i hj.symm).2 k hh hi
    · rw [e] at hi
      cases hi
  refine ⟨p, c, hlk, hov, fun i hi => ⟨(hoff i hi).1, hov.lt i hi⟩, hvv, fun o gg cap w2 hown hgr hat => ?_⟩
  have hg0 : Y.grownBy w2 (Value.slice p (U k).length c).ownBlock := ⟨hgr.os, hgr.tape, hgr.output, by have := hgr.size; simp at this; omega, fun i hi hne => (hgr.block i (by simp; omega) hne).trans (heap_alloc_old _ _ hi)⟩
  have ho2 : OwnS w1.heap.size w2 (.slice (some ⟨gg, 0, none⟩) ((U k).length + 1) cap) (U k ++ [y]) := by
    unfold OwnS
    rw [List.flatMap_append, List.length_append]
    simpa using hown
  obtain ⟨w3, hrun, hg3, hu3, hs3, ho3⟩ := h.u.push hk hvv ho2 hg0 (by
    rcases hat with e | e
    · exact .inl e.symm
    · exact .inr ⟨gg, by omega, rfl⟩) (by omega)
  refine ⟨w3, _, _, hrun, ⟨?_, ?_, ?_, hu3, h.bu, h.ro, fun i hi => ho3 i (h.rU i hi) (h.r.lt i hi).2, fun i hi => ho3 i (h.oU i hi) (h.o.lt i hi).2⟩, hs3, hg3⟩
  · exact chg_grown (chg_grown h.chg hg0 fun i hi => .inr (hov.lt i hi).1) hg3 fun i hi => .inl (by injection hi with hi; exact hi.symm)
  · refine (h.r.grown hg0 ?_).grown hg3 ?_
    · rcases hvo : vR.ownBlock with _ | j
      · exact .inl rfl
      · exact .inr fun e => (hoff j e.symm).2 _ (.inl rfl) hvo
    · rcases hvo : vR.ownBlock with _ | j
      · exact .inl rfl
      · exact .inr fun e => (h.rU j hvo).1 (by injection e)
  · refine (h.o.grown hg0 ?_).grown hg3 ?_
    · rcases hvo : vO.ownBlock with _ | j
      · exact .inl rfl
      · exact .inr fun e => (hoff j e.symm).2 _ (.inr rfl) hvo
    · rcases hvo : vO.ownBlock with _ | j
      · exact .inl rfl
      · exact .inr fun e => (h.oU j hvo).1 (by injection e)
end Go.Proofs.YtimjplkehlgelaaGreat
