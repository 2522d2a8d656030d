/- Session: TSts TSeats TSeats2 TEq TAwake TImage. -/
import Derived.Maps.AppendAt
import Derived.Laws.OwnMore
import Derived.Lib.SlKeysI
import Derived.Laws.StructEq
import Derived.Test.YtionbmlicmibgaaGreatDoorX1
import Derived.Test.YtionbmlicmibgaaGreatDoorS9
import Derived.Test.YtionbmlicmibgaaGreatDoorShelf
/- Sessions as a slice. -/
namespace Go.Proofs.YtionbmlicmibgaaGreatDoor
set_option linter.unusedVariables false
set_option linter.unusedSimpArgs false
open Go.RowKit

theorem sflat_at : ∀ (l : List St) (i k : Nat) {x : St}, l[i]? = some x → k < 11 → (l.flatMap stC)[i * 11 + k]? = (stC x)[k]?
  | [], i, k, x, h, _ => by simp at h
  | y :: r, 0, k, x, h, hk => by
    simp only [List.getElem?_cons_zero, Option.some.injEq] at h
    subst h
    rw [List.flatMap_cons, Nat.zero_mul, Nat.zero_add, List.getElem?_append_left (by rw [stC_length]; exact hk)]
  | y :: r, i + 1, k, x, h, hk => by
    rw [List.getElem?_cons_succ] at h
    rw [List.flatMap_cons, List.getElem?_append_right (by rw [stC_length]; omega), stC_length, show (i + 1) * 11 + k - 11 = i * 11 + k by omega]
    exact sflat_at r i k h hk

/-- A span's cells at a place. -/
def StAt (w : World) (g o : Nat) (x : St) : Prop := ∀ (k : Nat) u, (stC x)[k]? = some u → w.cell? ⟨g, o + k, none⟩ = some u
theorem StAt.c0 {w : World} {g o : Nat} {x : St} (h : StAt w g o x) : w.cell? ⟨g, o, none⟩ = some (.int .i64 x.s) := h 0 _ rfl
theorem StAt.c1 {w : World} {g o : Nat} {x : St} (h : StAt w g o x) : w.cell? ⟨g, o + 1, none⟩ = some (.int .i64 x.q) := h 1 _ rfl
theorem StAt.c2 {w : World} {g o : Nat} {x : St} (h : StAt w g o x) : w.cell? ⟨g, o + 2, none⟩ = some (.int .i64 x.a) := h 2 _ rfl
theorem StAt.c3 {w : World} {g o : Nat} {x : St} (h : StAt w g o x) : w.cell? ⟨g, o + 3, none⟩ = some (.int .i64 x.r.er) := h 3 _ rfl
theorem StAt.c4 {w : World} {g o : Nat} {x : St} (h : StAt w g o x) : w.cell? ⟨g, o + 4, none⟩ = some (.int .i64 x.r.rs) := h 4 _ rfl
theorem StAt.c5 {w : World} {g o : Nat} {x : St} (h : StAt w g o x) : w.cell? ⟨g, o + 5, none⟩ = some (.int .i64 x.r.gn) := h 5 _ rfl
theorem StAt.c6 {w : World} {g o : Nat} {x : St} (h : StAt w g o x) : w.cell? ⟨g, o + 6, none⟩ = some (.int .i64 x.r.ad) := h 6 _ rfl
theorem StAt.c7 {w : World} {g o : Nat} {x : St} (h : StAt w g o x) : w.cell? ⟨g, o + 7, none⟩ = some (.int .i64 x.r.sa) := h 7 _ rfl
theorem StAt.lt {w : World} {g o : Nat} {x : St} (h : StAt w g o x) : g < w.heap.size := lt_of_cell h.c0
theorem StAt.below {w w' : World} {g o : Nat} {x : St} (h : StAt w g o x) (hb : Below w.heap.size w w') : StAt w' g o x := fun k u hk => (hb.cell (lt_of_cell (h k u hk))).trans (h k u hk)
theorem StAt.grown {w w' : World} {g o : Nat} {x : St} {row : Option Nat} (h : StAt w g o x) (hg : w.grownBy w' row) (hne : row ≠ some g) : StAt w' g o x := fun k u hk => hg.cell (h k u hk) fun e => hne e.symm
theorem StAt.drewN {w : World} {g o : Nat} {x : St} (h : StAt w g o x) (n : Nat) : StAt (w.drewN n) g o x := h
theorem StAt.one {w : World} {g o : Nat} {x y : St} (h : StAt w g o x) (h' : StAt w g o y) : x = y := by
  refine stC_inj ?_
  apply List.ext_getElem?
  intro k
  by_cases hk : k < 11
  · have q1 := List.getElem?_eq_getElem (l := stC x) (i := k) (by rw [stC_length]; exact hk)
    have q2 := List.getElem?_eq_getElem (l := stC y) (i := k) (by rw [stC_length]; exact hk)
    have e := (h k _ q1).symm.trans (h' k _ q2)
    injection e with e
    rw [q1, q2, e]
  · rw [List.getElem?_eq_none (by rw [stC_length]; omega), List.getElem?_eq_none (by rw [stC_length]; omega)]

/-- The slice v reads as the spans l. -/
def Sts (w : World) (v : Value) (l : List St) : Prop :=
  ∃ (p : Option Addr) (cap : Nat), v = .slice p l.length cap ∧ l.length ≤ cap ∧ cap ≤ maxLen ∧ (p = none → cap = 0) ∧
    (0 < l.length → ∃ g o, p = some ⟨g, o, none⟩ ∧ ∀ (i : Nat) x, l[i]? = some x → StAt w g (o + i * 11) x)
theorem Sts.nil (w : World) : Sts w (.slice none 0 0) [] := ⟨none, 0, rfl, Nat.le_refl _, by simp [maxLen], fun _ => rfl, fun h => absurd h (Nat.lt_irrefl _)⟩
theorem Sts.none_ (w : World) (p : Option Addr) (c : Nat) (hc : c ≤ maxLen) (hp : p = none → c = 0) : Sts w (.slice p 0 c) [] := ⟨p, c, rfl, Nat.zero_le _, hc, hp, fun h => absurd h (Nat.lt_irrefl _)⟩
theorem Sts.sl {w : World} {v : Value} {l : List St} (h : Sts w v l) : ∃ p n c, v = .slice p n c := by
  obtain ⟨p, c, e, _⟩ := h
  exact ⟨p, _, c, e⟩
theorem Sts.len {w : World} {p : Option Addr} {n c : Nat} {l : List St} (h : Sts w (.slice p n c) l) : n = l.length ∧ n ≤ c ∧ c ≤ maxLen := by
  obtain ⟨p', c', e, hl, hm, _⟩ := h
  injection e with _ e2 e3
  subst e2 e3
  exact ⟨rfl, hl, hm⟩
theorem Sts.at_ {w : World} {p : Option Addr} {n c : Nat} {l : List St} (h : Sts w (.slice p n c) l) (hn : 0 < n) : ∃ g o, p = some ⟨g, o, none⟩ ∧ ∀ (i : Nat) x, l[i]? = some x → StAt w g (o + i * 11) x := by
  obtain ⟨p', c', e, _, _, _, hx⟩ := h
  injection e with e1 e2 e3
  subst e1 e2
  exact hx hn
theorem Sts.below {w w' : World} {v : Value} {l : List St} (h : Sts w v l) (hb : Below w.heap.size w w') : Sts w' v l := by
  obtain ⟨p, c, rfl, hl, hm, hn, hx⟩ := h
  refine ⟨p, c, rfl, hl, hm, hn, fun h0 => ?_⟩
  obtain ⟨g, o, e, hx⟩ := hx h0
  exact ⟨g, o, e, fun i x hi => (hx i x hi).below hb⟩
theorem Sts.grown {w w' : World} {v : Value} {l : List St} {row : Option Nat} (h : Sts w v l) (hg : w.grownBy w' row) (hne : l = [] ∨ ∀ k, v.ownBlock = some k → row ≠ some k) : Sts w' v l := by
  obtain ⟨p, c, rfl, hl, hm, hn, hx⟩ := h
  refine ⟨p, c, rfl, hl, hm, hn, fun h0 => ?_⟩
  obtain ⟨g, o, e, hx⟩ := hx h0
  refine ⟨g, o, e, fun i x hi => (hx i x hi).grown hg ?_⟩
  rcases hne with rfl | hne
  · simp at h0
  · exact hne g (by rw [e]; rfl)
theorem Sts.drewN {w : World} {v : Value} {l : List St} (h : Sts w v l) (n : Nat) : Sts (w.drewN n) v l := h
theorem Sts.one {w : World} {v : Value} {l m : List St} (h : Sts w v l) (h' : Sts w v m) : l = m := by
  obtain ⟨p, c, rfl, _, _, _, hx⟩ := h
  obtain ⟨p', c', e, _, _, _, hx'⟩ := h'
  injection e with e1 e2 e3
  subst e1
  apply List.ext_getElem? 
  intro i
  by_cases hi : i < l.length
  · have h0 : 0 < l.length := by omega
    obtain ⟨g, o, e, hx⟩ := hx h0
    obtain ⟨g', o', e', hx'⟩ := hx' (by omega)
    rw [e] at e'
    injection e' with e'
    injection e' with e1 e2
    subst e1 e2
    have hi' : i < m.length := by omega
    have q1 := List.getElem?_eq_getElem hi
    have q2 := List.getElem?_eq_getElem hi'
    rw [q1, q2, (hx i _ q1).one (hx' i _ q2)]
  · rw [List.getElem?_eq_none (by omega), List.getElem?_eq_none (by omega)]

/-- The slice v reads as the spans l, in a block of its own from B on; or it is nil. -/
def OwnT (B : Nat) (w : World) (v : Value) (l : List St) : Prop := w.ownsRow B 84 11 v l.length (l.flatMap stC)
theorem OwnT.nil (B : Nat) (w : World) : OwnT B w (.slice none 0 0) [] := World.ownsRow_nil _ _ _ _
theorem OwnT.sts {B : Nat} {w : World} {v : Value} {l : List St} (h : OwnT B w v l) : Sts w v l := by
  obtain ⟨hl, ⟨rfl, h0⟩ | ⟨g, cap, cur, rfl, hB, hh, hc, hm, hs, ht⟩⟩ := h
  · obtain rfl : l = [] := List.eq_nil_of_length_eq_zero h0
    exact Sts.nil w
  · refine ⟨_, cap, rfl, hc, hm, (fun e => by cases e), fun _ => ⟨g, 0, rfl, fun i x hi k u hk => ?_⟩⟩
    have hk6 : k < 11 := by
      have := (List.getElem?_eq_some_iff.1 hk).1
      rwa [stC_length] at this
    have hil := (List.getElem?_eq_some_iff.1 hi).1
    have h1 := sflat_at l i k hi hk6
    rw [hk, ← ht, List.getElem?_take_of_lt (by omega), Array.getElem?_toList] at h1
    rw [cell_of_row w g (0 + i * 11 + k) cur _ (0, 0) hh, Nat.zero_add]
    exact h1
theorem OwnT.lt {B : Nat} {w : World} {v : Value} {l : List St} (h : OwnT B w v l) : ∀ k, v.ownBlock = some k → B ≤ k ∧ k < w.heap.size := World.ownsRow.lt h
theorem OwnT.below {B : Nat} {w w' : World} {v : Value} {l : List St} (h : OwnT B w v l) (hb : Below w.heap.size w w') : OwnT B w' v l := World.ownsRow.kept (row := none) h ⟨hb.os, hb.tape, hb.output, hb.size, fun k hk _ => hb.block k hk⟩ (by cases v.ownBlock <;> simp)
theorem OwnT.mono {B B' : Nat} {w : World} {v : Value} {l : List St} (h : OwnT B w v l) (hB : B' ≤ B) : OwnT B' w v l := ⟨h.1, h.2.imp id fun ⟨g, cap, cur, e, hb, r⟩ => ⟨g, cap, cur, e, Nat.le_trans hB hb, r⟩⟩
theorem OwnT.grown {B : Nat} {w w' : World} {v : Value} {l : List St} {row : Option Nat} (h : OwnT B w v l) (hg : w.grownBy w' row) (hne : v.ownBlock = none ∨ v.ownBlock ≠ row) : OwnT B w' v l := World.ownsRow.kept h hg hne


end Go.Proofs.YtionbmlicmibgaaGreatDoor
/- Seats. -/
namespace Go.Proofs.YtionbmlicmibgaaGreatDoor
set_option linter.unusedVariables false
set_option linter.unusedSimpArgs false
open Go.RowKit Go.Maps Go.Sort Go.Shelf

end Go.Proofs.YtionbmlicmibgaaGreatDoor
/- Seats: the walk. -/
namespace Go.Proofs.YtionbmlicmibgaaGreatDoor
set_option linter.unusedVariables false
set_option linter.unusedSimpArgs false
open Go.RowKit

end Go.Proofs.YtionbmlicmibgaaGreatDoor
/- Replies and sessions held against each other; slices.Equal at sessions. -/
namespace Go.Proofs.YtionbmlicmibgaaGreatDoor
set_option linter.unusedVariables false
set_option linter.unusedSimpArgs false
open Go.RowKit Go.Lib

instance : Inhabited St := ⟨st0⟩
theorem rp_beq (x y : Rp) : (x.er == y.er && (x.rs == y.rs && (x.gn == y.gn && (x.ad == y.ad && (x.sa == y.sa && (x.ot == y.ot && (x.cy == y.cy && (x.fu == y.fu)))))))) = decide (x = y) := by
  obtain ⟨a1, a2, a3, a4, a5, a6, a7, a8⟩ := x
  obtain ⟨b1, b2, b3, b4, b5, b6, b7, b8⟩ := y
  dsimp only
  rw [Bool.eq_iff_iff]
  simp [Rp.mk.injEq]
set_option maxRecDepth 200000 in
set_option maxHeartbeats 4000000 in
theorem rp_eql (x y : Rp) (w : World) : (binOp .eql 66 (.agg (rpC x).toArray) (.agg (rpC y).toArray)).run Tryz.prog w = .ok (.bool (decide (x = y))) w := by
  have u3 := Tryz.underlying3
  have a3 := Tryz.isAgg3
  have z3 := Tryz.sizeOf3
  have ue := Tryz.underlying33
  have ae := Tryz.isAgg33
  have ze := Tryz.sizeOf33
  have ag0 := Tryz.isAgg64
  have zg0 := Tryz.sizeOf64
  have hS : Tryz.prog.underlying 66 = some (.struct (Tryz.prog.fieldsOf 66)) := by kernel_rfl
  have hp : Tryz.prog.stoodInHeld 66 = false := by kernel_rfl
  rw [← rp_beq]
  simp only [rpC]
  rw [run_eql_struct, show (10000 : Nat) = 9999 + 1 from rfl, run_equalIn_agg w 9999 66 _ _ hS hp]
  simp only [Program.fieldsOf, Tryz.underlying66]
  clear hS
  go_simp
  (repeat' split) <;> simp_all
theorem rp_neqB (x y : Rp) (w : World) : (binOp .neq 66 (.agg (rpC x).toArray) (.agg (rpC y).toArray)).run Tryz.prog w = .ok (.bool (!decide (x = y))) w := by
  have h := rp_eql x y w
  rw [run_eql_struct] at h
  rw [run_neq_struct]
  cases hr : (Op.equalIn 10000 66 (.agg (rpC x).toArray) (.agg (rpC y).toArray)).run Tryz.prog w with
  | ok b w' =>
    rw [hr] at h
    simp only [Result.andThen_ok, Result.ok.injEq, Value.bool.injEq] at h ⊢
    rw [h.1]
    exact ⟨rfl, h.2⟩
  | halt x w' =>
    rw [hr] at h
    simp [Result.andThen] at h
end Go.Proofs.YtionbmlicmibgaaGreatDoor
/- A table of a law's own; awake. -/
namespace Go.Proofs.YtionbmlicmibgaaGreatDoor
set_option linter.unusedVariables false
set_option linter.unusedSimpArgs false
open Go.RowKit

/-- A table that was made behind w0, and nothing that was there has changed since. -/
structure TbOwn (w0 : World) (g b : Nat) (w : World) (L : List St) : Prop where
  tb : TbIs w g b L
  gl : w0.heap.size ≤ g
  bl : w0.heap.size ≤ b
  below : Below w0.heap.size w0 w
theorem TbOwn.new {w w' : World} (h : TbIs w' (w.heap.size + 1) w.heap.size []) (hb : Below w.heap.size w w') : TbOwn w (w.heap.size + 1) w.heap.size w' [] := ⟨h, by omega, Nat.le_refl _, hb⟩
theorem TbOwn.tab {w0 w w' : World} {g b : Nat} {L L' : List St} (h : TbOwn w0 g b w L) (h' : TbIs w' g b L') (hc : Chg w w' (fun k => k = b)) : TbOwn w0 g b w' L' :=
  ⟨h', h.gl, h.bl, Chg.to_below h.below hc (fun k e => by rw [e]; exact h.bl)⟩
theorem TbOwn.bel {w0 w w' : World} {g b : Nat} {L : List St} (h : TbOwn w0 g b w L) (hb : Below w.heap.size w w') : TbOwn w0 g b w' L :=
  ⟨h.tb.below hb, h.gl, h.bl, h.below.trans (hb.mono h.below.size)⟩
theorem TbOwn.alloc {w0 w : World} {g b : Nat} {L : List St} (h : TbOwn w0 g b w L) (o : Obj) : TbOwn w0 g b (w.alloc o) L := h.bel ((Below.refl _ _).alloc (Nat.le_refl _) o)
theorem TbOwn.drew {w0 w : World} {g b : Nat} {L : List St} (h : TbOwn w0 g b w L) (q : Nat) : TbOwn w0 g b (w.drewN q) L := h.bel (bdrew w q)

end Go.Proofs.YtionbmlicmibgaaGreatDoor
/- A session's bytes, and a table's. -/
namespace Go.Proofs.YtionbmlicmibgaaGreatDoor
set_option linter.unusedVariables false
set_option linter.unusedSimpArgs false
open Go.RowKit

end Go.Proofs.YtionbmlicmibgaaGreatDoor
