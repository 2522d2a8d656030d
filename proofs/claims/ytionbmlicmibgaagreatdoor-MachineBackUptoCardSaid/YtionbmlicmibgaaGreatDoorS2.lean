import Derived.Maps.AppendAt
import Derived.Laws.OwnMore
import Derived.Maps.OwnSet
import Derived.Maps.RangeWalk
import Derived.Maps.Ext
import Derived.WalkLawsBesides
import Derived.Deep.LoopGhost
import Derived.Shelf.SlicesQ.Equal
import Derived.Shelf.SlMaps.Clone
import Derived.Laws.StructEq
import Derived.Test.YtionbmlicmibgaaGreatDoorS1
import Derived.Test.YtionbmlicmibgaaGreatDoorShelf
import Derived.Test.YtionbmlicmibgaaGreatDoorBase
namespace Go.Proofs.YtionbmlicmibgaaGreatDoor
set_option linter.unusedVariables false
set_option linter.unusedSimpArgs false
open Go.RowKit
def spC (x : Sp) : List Value := [.int .i64 x.t, .int .i64 x.i, .int .i64 x.p, .int .i64 x.s, .int .i64 x.e, .string x.n]
def spV (x : Sp) : Value := .agg #[.int .i64 x.t, .int .i64 x.i, .int .i64 x.p, .int .i64 x.s, .int .i64 x.e, .string x.n]
theorem spC_length (x : Sp) : (spC x).length = 6 := rfl
theorem spC_one (x : Sp) : ∀ v ∈ spC x, v.oneCell' = true := by
  intro v hv
  simp only [spC, List.mem_cons, List.not_mem_nil, or_false] at hv
  rcases hv with rfl | rfl | rfl | rfl | rfl | rfl <;> rfl
theorem flat_len (l : List Sp) : (l.flatMap spC).length = l.length * 6 := by
  induction l with
  | nil => rfl
  | cons x r ih => rw [List.flatMap_cons, List.length_append, ih, spC_length, List.length_cons]; omega
theorem flat_at : ∀ (l : List Sp) (i k : Nat) {x : Sp}, l[i]? = some x → k < 6 → (l.flatMap spC)[i * 6 + k]? = (spC x)[k]?
  | [], i, k, x, h, _ => by simp at h
  | y :: r, 0, k, x, h, hk => by
    simp only [List.getElem?_cons_zero, Option.some.injEq] at h
    subst h
    rw [List.flatMap_cons, Nat.zero_mul, Nat.zero_add, List.getElem?_append_left (by rw [spC_length]; exact hk)]
  | y :: r, i + 1, k, x, h, hk => by
    rw [List.getElem?_cons_succ] at h
    rw [List.flatMap_cons, List.getElem?_append_right (by rw [spC_length]; omega), spC_length, show (i + 1) * 6 + k - 6 = i * 6 + k by omega]
    exact flat_at r i k h hk
def SpAt (w : World) (g o : Nat) (x : Sp) : Prop := ∀ (k : Nat) u, (spC x)[k]? = some u → w.cell? ⟨g, o + k, none⟩ = some u
theorem SpAt.c0 {w : World} {g o : Nat} {x : Sp} (h : SpAt w g o x) : w.cell? ⟨g, o, none⟩ = some (.int .i64 x.t) := h 0 _ rfl
theorem SpAt.c1 {w : World} {g o : Nat} {x : Sp} (h : SpAt w g o x) : w.cell? ⟨g, o + 1, none⟩ = some (.int .i64 x.i) := h 1 _ rfl
theorem SpAt.c2 {w : World} {g o : Nat} {x : Sp} (h : SpAt w g o x) : w.cell? ⟨g, o + 2, none⟩ = some (.int .i64 x.p) := h 2 _ rfl
theorem SpAt.c3 {w : World} {g o : Nat} {x : Sp} (h : SpAt w g o x) : w.cell? ⟨g, o + 3, none⟩ = some (.int .i64 x.s) := h 3 _ rfl
theorem SpAt.c4 {w : World} {g o : Nat} {x : Sp} (h : SpAt w g o x) : w.cell? ⟨g, o + 4, none⟩ = some (.int .i64 x.e) := h 4 _ rfl
theorem SpAt.c5 {w : World} {g o : Nat} {x : Sp} (h : SpAt w g o x) : w.cell? ⟨g, o + 5, none⟩ = some (.string x.n) := h 5 _ rfl
theorem SpAt.lt {w : World} {g o : Nat} {x : Sp} (h : SpAt w g o x) : g < w.heap.size := lt_of_cell h.c0
theorem SpAt.below {w w' : World} {g o : Nat} {x : Sp} (h : SpAt w g o x) (hb : Below w.heap.size w w') : SpAt w' g o x := fun k u hk => (hb.cell (lt_of_cell (h k u hk))).trans (h k u hk)
theorem SpAt.grown {w w' : World} {g o : Nat} {x : Sp} {row : Option Nat} (h : SpAt w g o x) (hg : w.grownBy w' row) (hne : row ≠ some g) : SpAt w' g o x := fun k u hk => hg.cell (h k u hk) fun e => hne e.symm
def Sps (w : World) (v : Value) (l : List Sp) : Prop :=
  ∃ (p : Option Addr) (cap : Nat), v = .slice p l.length cap ∧ l.length ≤ cap ∧ cap ≤ maxLen ∧ (p = none → cap = 0) ∧
    (0 < l.length → ∃ g o, p = some ⟨g, o, none⟩ ∧ ∀ (i : Nat) x, l[i]? = some x → SpAt w g (o + i * 6) x)
theorem Sps.nil (w : World) : Sps w (.slice none 0 0) [] := ⟨none, 0, rfl, Nat.le_refl _, by simp [maxLen], fun _ => rfl, fun h => absurd h (Nat.lt_irrefl _)⟩
theorem Sps.none_ (w : World) (p : Option Addr) (c : Nat) (hc : c ≤ maxLen) (hp : p = none → c = 0) : Sps w (.slice p 0 c) [] := ⟨p, c, rfl, Nat.zero_le _, hc, hp, fun h => absurd h (Nat.lt_irrefl _)⟩
theorem Sps.sl {w : World} {v : Value} {l : List Sp} (h : Sps w v l) : ∃ p n c, v = .slice p n c := by
  obtain ⟨p, c, e, _⟩ := h
  exact ⟨p, _, c, e⟩
theorem Sps.len {w : World} {p : Option Addr} {n c : Nat} {l : List Sp} (h : Sps w (.slice p n c) l) : n = l.length ∧ n ≤ c ∧ c ≤ maxLen := by
  obtain ⟨p', c', e, hl, hm, _⟩ := h
  injection e with _ e2 e3
  subst e2 e3
  exact ⟨rfl, hl, hm⟩
theorem Sps.at_ {w : World} {p : Option Addr} {n c : Nat} {l : List Sp} (h : Sps w (.slice p n c) l) (hn : 0 < n) : ∃ g o, p = some ⟨g, o, none⟩ ∧ ∀ (i : Nat) x, l[i]? = some x → SpAt w g (o + i * 6) x := by
  obtain ⟨p', c', e, _, _, _, hx⟩ := h
  injection e with e1 e2 e3
  subst e1 e2
  exact hx hn
theorem Sps.below {w w' : World} {v : Value} {l : List Sp} (h : Sps w v l) (hb : Below w.heap.size w w') : Sps w' v l := by
  obtain ⟨p, c, rfl, hl, hm, hn, hx⟩ := h
  refine ⟨p, c, rfl, hl, hm, hn, fun h0 => ?_⟩
  obtain ⟨g, o, e, hx⟩ := hx h0
  exact ⟨g, o, e, fun i x hi => (hx i x hi).below hb⟩
def OwnS (B : Nat) (w : World) (v : Value) (l : List Sp) : Prop := w.ownsRow B 30 6 v l.length (l.flatMap spC)
theorem OwnS.nil (B : Nat) (w : World) : OwnS B w (.slice none 0 0) [] := World.ownsRow_nil _ _ _ _
theorem OwnS.sps {B : Nat} {w : World} {v : Value} {l : List Sp} (h : OwnS B w v l) : Sps w v l := by
  obtain ⟨hl, ⟨rfl, h0⟩ | ⟨g, cap, cur, rfl, hB, hh, hc, hm, hs, ht⟩⟩ := h
  · obtain rfl : l = [] := List.eq_nil_of_length_eq_zero h0
    exact Sps.nil w
  · refine ⟨_, cap, rfl, hc, hm, (fun e => by cases e), fun _ => ⟨g, 0, rfl, fun i x hi k u hk => ?_⟩⟩
    have hk6 : k < 6 := by
      have := (List.getElem?_eq_some_iff.1 hk).1
      rwa [spC_length] at this
    have hil := (List.getElem?_eq_some_iff.1 hi).1
    have h1 := flat_at l i k hi hk6
    rw [hk, ← ht, List.getElem?_take_of_lt (by omega), Array.getElem?_toList] at h1
    rw [cell_of_row w g (0 + i * 6 + k) cur _ (0, 0) hh, Nat.zero_add]
    exact h1
theorem OwnS.lt {B : Nat} {w : World} {v : Value} {l : List Sp} (h : OwnS B w v l) : ∀ k, v.ownBlock = some k → B ≤ k ∧ k < w.heap.size := World.ownsRow.lt h
theorem OwnS.below {B : Nat} {w w' : World} {v : Value} {l : List Sp} (h : OwnS B w v l) (hb : Below w.heap.size w w') : OwnS B w' v l := World.ownsRow.kept (row := none) h ⟨hb.os, hb.tape, hb.output, hb.size, fun k hk _ => hb.block k hk⟩ (by cases v.ownBlock <;> simp)
theorem OwnS.mono {B B' : Nat} {w : World} {v : Value} {l : List Sp} (h : OwnS B w v l) (hB : B' ≤ B) : OwnS B' w v l := ⟨h.1, h.2.imp id fun ⟨g, cap, cur, e, hb, r⟩ => ⟨g, cap, cur, e, Nat.le_trans hB hb, r⟩⟩
theorem OwnS.grown {B : Nat} {w w' : World} {v : Value} {l : List Sp} {row : Option Nat} (h : OwnS B w v l) (hg : w.grownBy w' row) (hne : v.ownBlock = none ∨ v.ownBlock ≠ row) : OwnS B w' v l := World.ownsRow.kept h hg hne
end Go.Proofs.YtionbmlicmibgaaGreatDoor
namespace Go.Proofs.YtionbmlicmibgaaGreatDoor
set_option linter.unusedVariables false
set_option linter.unusedSimpArgs false
open Go.RowKit
def fnd (L : List Sp) (k : Int) : Option Sp := L.find? fun x => x.i == k
theorem fnd_mem {L : List Sp} {k : Int} {x : Sp} (h : fnd L k = some x) : x ∈ L ∧ x.i = k := by
  have h1 := List.find?_some h
  exact ⟨List.mem_of_find?_eq_some h, by simpa using h1⟩
theorem fnd_none {L : List Sp} {k : Int} : fnd L k = none ↔ ∀ x ∈ L, x.i ≠ k := by
  unfold fnd
  rw [List.find?_eq_none]
  simp
theorem fnd_add (L : List Sp) (x : Sp) (k : Int) : fnd (L ++ [x]) k = (fnd L k).or (if x.i = k then some x else none) := by
  unfold fnd
  rw [List.find?_append]
  congr 1
  by_cases h : x.i = k <;> simp [h]
theorem fnd_of {L : List Sp} (h : L.Pairwise fun x y => x.i ≠ y.i) {x : Sp} (hx : x ∈ L) : fnd L x.i = some x := by
  induction L with
  | nil => simp at hx
  | cons y r ih =>
    rw [List.pairwise_cons] at h
    unfold fnd
    rw [List.find?_cons]
    rcases List.mem_cons.1 hx with rfl | hx
    · simp
    · have := h.1 x hx
      simp only [beq_eq_false_iff_ne.2 this]
      exact ih h.2 hx
def heldA : Value → Option (DataW Value × List MemPlace)
  | .agg a => some (.held (.agg a), [])
  | _ => none
theorem heldA_inv {v u : Value} {ps : List MemPlace} (h : heldA v = some (.held u, ps)) : v = u := by
  cases v <;> simp [heldA] at h
  exact h.1
theorem intK : Maps.Keyed Tryz.prog 3 := Maps.int_keyed Tryz.underlying3
theorem keyI {k : Int} (hk : (Lit.int .i64 k).wf = true) : keyOf Tryz.prog 3 (.int .i64 k) = some (.int .i64 k) := Maps.keyOf_int_mk Tryz.underlying3 hk
theorem isKeyI (k : Int) : WideAt.IsKeyLit (.int .i64 k) := trivial
def sp0 : Sp := ⟨0, 0, 0, 0, 0, ByteArray.empty⟩
theorem zeroSp (w : World) : (zeroValue 30).run Tryz.prog w = .ok (spV sp0) w := by kernel_rfl
structure BagIs (w : World) (b : Nat) (L : List Sp) (D : DataW Value) : Prop where
  map : w.ownsMap Tryz.prog 3 heldA b L.length D
  size : Maps.size D = L.length
  keys : ∀ k, Maps.has D (.int .i64 k) = (fnd L k).isSome
  vals : ∀ k x, fnd L k = some x → ∀ z, D.atKey (.int .i64 k) z = .held (spV x)
  ids : L.Pairwise fun x y => x.i ≠ y.i
theorem bmap_tight {H : Type} {P : Program} {k : TypeId} {R : Value → Option (DataW H × List MemPlace)} {w : World} {b n : Nat} {D : DataW H} (h : w.ownsMap P k R b n D) : w.ownsMap P k R b (Maps.size D) D := by
  obtain ⟨es, clock, hb, F, hs, rfl⟩ := h
  exact ⟨es, clock, hb, F, by simp [Maps.size, length_sorted], rfl⟩
theorem BagIs.below {w w' : World} {b : Nat} {L : List Sp} {D : DataW Value} (h : BagIs w b L D) (hb : Below w.heap.size w w') : BagIs w' b L D := by
  have hlt := h.map.lt
  obtain ⟨es, clock, h1, rest⟩ := h.map
  exact ⟨⟨es, clock, (hb.block b hlt).trans h1, rest⟩, h.size, h.keys, h.vals, h.ids⟩
theorem BagIs.drewN {w : World} {b : Nat} {L : List Sp} {D : DataW Value} (h : BagIs w b L D) (q : Nat) : BagIs (w.drewN q) b L D := ⟨h.map, h.size, h.keys, h.vals, h.ids⟩
theorem BagIs.grown {w w' : World} {b : Nat} {L : List Sp} {D : DataW Value} {row : Option Nat} (h : BagIs w b L D) (hg : w.grownBy w' row) (hne : row ≠ some b) : BagIs w' b L D :=
  ⟨h.map.kept hg fun e => hne e.symm, h.size, h.keys, h.vals, h.ids⟩
theorem BagIs.look {w : World} {b : Nat} {L : List Sp} {D : DataW Value} (h : BagIs w b L D) {k : Int} (hk : (Lit.int .i64 k).wf = true) (q : Nat) :
    (Instr.lookup 230 (.map (some b)) (.int .i64 k) true).run Tryz.prog (w.drewN q) = .ok (.tuple #[spV ((fnd L k).getD sp0), .bool (fnd L k).isSome]) (w.drewN q) ∧ (Instr.lookup 230 (.map (some b)) (.int .i64 k) false).run Tryz.prog (w.drewN q) = .ok (spV ((fnd L k).getD sp0)) (w.drewN q) := by
  have hmap : (w.drewN q).ownsMap Tryz.prog 3 heldA b L.length D := h.map
  obtain ⟨v, ps, hrun, hv⟩ := hmap.look_ok intK Tryz.underlying230 (zeroSp (w.drewN q)) (zd := .held (spV sp0)) (zp := []) rfl (keyI hk)
  obtain ⟨v2, ps2, hrun2, hv2⟩ := hmap.lookup intK Tryz.underlying230 (zeroSp (w.drewN q)) (zd := .held (spV sp0)) (zp := []) rfl (keyI hk)
  cases hf : fnd L k with
  | none =>
    have hh : Maps.has D (.int .i64 k) = false := by rw [h.keys, hf]; rfl
    rw [Maps.atKey_of_not_has hh] at hv hv2
    obtain rfl := heldA_inv hv
    obtain rfl := heldA_inv hv2
    rw [hh] at hrun
    exact ⟨hrun, hrun2⟩
  | some x =>
    have hh : Maps.has D (.int .i64 k) = true := by rw [h.keys, hf]; rfl
    rw [h.vals k x hf] at hv hv2
    obtain rfl := heldA_inv hv
    obtain rfl := heldA_inv hv2
    rw [hh] at hrun
    exact ⟨hrun, hrun2⟩
set_option maxRecDepth 20000 in
theorem BagIs.store {w : World} {b : Nat} {L : List Sp} {D : DataW Value} (h : BagIs w b L D) {x : Sp} (hk : (Lit.int .i64 x.i).wf = true) (hn : fnd L x.i = none) (hL : L.length < maxLen) :
    ∃ w', (Instr.mapUpdate 230 (.map (some b)) (.int .i64 x.i) (spV x)).run Tryz.prog w = .ok () w' ∧ w.grownBy w' (some b) ∧ BagIs w' b (L ++ [x]) (D.put (.int .i64 x.i) (.held (spV x))) := by
  obtain ⟨w', hrun, hm', hg⟩ := h.map.update intK Tryz.underlying230 hL (keyI hk) (d := .held (spV x)) (ps := []) (val := spV x) rfl
  have htidy := h.map.tidy intK
  have hsz : Maps.size (D.put (.int .i64 x.i) (.held (spV x))) = (L ++ [x]).length := by
    rw [Maps.size_put htidy, h.keys, hn, h.size]
    simp
  refine ⟨w', hrun, hg, ⟨by rw [← hsz]; exact bmap_tight hm', hsz, fun k => ?_, fun k y hy => ?_, ?_⟩⟩
  · rw [fnd_add]
    by_cases e : x.i = k
    · subst e
      rw [if_pos rfl, Maps.has_put_same h.map.isMap (isKeyI _)]
      cases fnd L x.i <;> rfl
    · rw [if_neg e, Maps.has_put_other (fun h => e (by injection h with _ h; exact h.symm)), h.keys]
      cases fnd L k <;> rfl
  · rw [fnd_add] at hy
    by_cases e : x.i = k
    · subst e
      rw [hn, if_pos rfl] at hy
      simp at hy
      subst hy
      intro z
      rw [Maps.atKey_put_same h.map.isMap (isKeyI _)]
    · rw [if_neg e] at hy
      intro z
      rw [Maps.atKey_put_other (fun h => e (by injection h with _ h; exact h.symm))]
      refine h.vals k y ?_ z
      cases hf : fnd L k with
      | none => rw [hf] at hy; simp at hy
      | some u => rw [hf] at hy; simpa using hy
  · rw [List.pairwise_append]
    refine ⟨h.ids, List.pairwise_singleton _ _, fun a ha y hy => ?_⟩
    simp only [List.mem_cons, List.not_mem_nil, or_false] at hy
    subst hy
    exact fnd_none.1 hn a ha
theorem bag_new (w : World) : BagIs (w.alloc (.map #[] 0)) w.heap.size [] (.map []) :=
  ⟨World.ownsMap_made w _ _ _, rfl, fun k => rfl, fun k x h => by simp [fnd] at h, List.Pairwise.nil⟩
end Go.Proofs.YtionbmlicmibgaaGreatDoor
namespace Go.Proofs.YtionbmlicmibgaaGreatDoor
set_option linter.unusedVariables false
set_option linter.unusedSimpArgs false
open Go.RowKit
set_option maxRecDepth 200000 in
set_option maxHeartbeats 400000 in
theorem between_int (a x b : Int) (w : World) : Calls Tryz.prog 175 #[.int .i64 a, .int .i64 x, .int .i64 b] w fun e w' => e = .returned (.bool (decide (a ≤ x) && decide (x ≤ b))) ∧ w' = w := by
  by_cases h : a ≤ x
  · go_enter Tryz.func175, Tryz.ntmps175
    go_wp2
    go_ret
    simp [h]
  · have h' : decide (a ≤ x) = false := decide_eq_false h
    rw [h', Bool.false_and]
    clear h'
    go_enter Tryz.func175, Tryz.ntmps175
    go_wp2
    go_ret
    exact ⟨rfl, rfl⟩
set_option maxRecDepth 200000 in
set_option maxHeartbeats 400000 in
theorem between_byte (a x b : Int) (w : World) : Calls Tryz.prog 176 #[.int .u8 a, .int .u8 x, .int .u8 b] w fun e w' => e = .returned (.bool (decide (a ≤ x) && decide (x ≤ b))) ∧ w' = w := by
  by_cases h : a ≤ x
  · go_enter Tryz.func176, Tryz.ntmps176
    go_wp2
    go_ret
    simp [h]
  · have h' : decide (a ≤ x) = false := decide_eq_false h
    rw [h', Bool.false_and]
    clear h'
    go_enter Tryz.func176, Tryz.ntmps176
    go_wp2
    go_ret
    exact ⟨rfl, rfl⟩
set_option maxRecDepth 200000 in
set_option maxHeartbeats 1100000 in
theorem mayStand_any (x : Sp) (w : World) : Calls Tryz.prog 136 #[spV x] w fun e w' => e = .returned (.bool (okStand x)) ∧ Below w.heap.size w w' := by
  obtain ⟨t, i, p, s, e, n⟩ := x
  unfold spV okStand
  dsimp only
  obtain ⟨A, hA⟩ : ∃ A, (decide (1 ≤ t) && decide (t ≤ 1099511627776)) = A := ⟨_, rfl⟩
  obtain ⟨B, hB⟩ : ∃ A, (decide (1 ≤ i) && decide (i ≤ 1099511627776)) = A := ⟨_, rfl⟩
  obtain ⟨C, hC⟩ : ∃ A, (decide (0 ≤ p) && decide (p ≤ 1099511627776)) = A := ⟨_, rfl⟩
  rw [hA, hB, hC]
  cases A <;> cases B <;> cases C
  all_goals
    go_enter Tryz.func136, Tryz.ntmps136
    go_wp2_with (go_at_call 175; refine (between_int _ _ _ _).mono ?_; rintro e w' ⟨rfl, rfl⟩; first | rw [hA] | rw [hB] | rw [hC])
    go_ret
    exact ⟨by first | (simp; done) | (by_cases h : p = i <;> simp [h]), (Below.refl _ _).alloc (Nat.le_refl _) _⟩
set_option maxRecDepth 200000 in
set_option maxHeartbeats 1100000 in
theorem mayTake_any (x : Sp) (w : World) : Calls Tryz.prog 137 #[spV x] w fun e w' => e = .returned (.bool (okTake x)) ∧ Below w.heap.size w w' := by
  obtain ⟨t, i, p, s, e, n⟩ := x
  unfold spV okTake
  dsimp only
  obtain ⟨A, hA⟩ : ∃ A, (decide (0 ≤ s) && decide (s ≤ e)) = A := ⟨_, rfl⟩
  rw [hA]
  cases A
  all_goals
    go_enter Tryz.func137, Tryz.ntmps137
    go_wp2_with (go_at_call 175; refine (between_int _ _ _ _).mono ?_; rintro e w' ⟨rfl, rfl⟩; rw [hA])
    go_ret
    exact ⟨by simp, (Below.refl _ _).alloc (Nat.le_refl _) _⟩
theorem all_drop {l : List UInt8} {k : Nat} {y : UInt8} (h : l[k]? = some y) (p : UInt8 → Bool) : (l.drop k).all p = (p y && (l.drop (k + 1)).all p) := by
  have hk := (List.getElem?_eq_some_iff.1 h).1
  rw [List.drop_eq_getElem_cons hk, List.all_cons]
  rw [List.getElem?_eq_getElem hk] at h
  injection h with h
  rw [h]
set_option maxRecDepth 200000 in
set_option maxHeartbeats 1100000 in
theorem mayBeCalled_any (n : ByteArray) (hn : n.size ≤ 1100000) (w : World) : Calls Tryz.prog 138 #[.string n] w fun e w' => e = .returned (.bool (okName n.data.toList)) ∧ Below w.heap.size w w' := by
  obtain ⟨A, hA⟩ : ∃ A, (decide ((1 : Int) ≤ n.size) && decide ((n.size : Int) ≤ 32)) = A := ⟨_, rfl⟩
  have hl : n.data.toList.length = n.size := by rw [Array.length_toList]; rfl
  have hok : okName n.data.toList = (A && n.data.toList.all okByte) := by
    unfold okName
    rw [← hA, hl]
    congr 2
    · rw [decide_eq_decide]; omega
    · rw [decide_eq_decide]; omega
  rw [hok]
  clear hok
  cases A
  · go_enter Tryz.func138, Tryz.ntmps138
    go_wp2_with (go_at_call 175; refine (between_int _ _ _ _).mono ?_; rintro e w' ⟨rfl, rfl⟩; rw [hA])
    go_ret
    exact ⟨rfl, Below.refl _ _⟩
  · obtain ⟨q, w2, hcv, hby, hb2, hlt⟩ := conv_string w n hn
    obtain ⟨L, hL⟩ : ∃ L, n.data.toList = L := ⟨_, rfl⟩
    rw [hL] at hby hl ⊢
    have HBY := hide hby
    have HB := hide hb2
    have HL := hide hl
    clear hby hb2 hlt hl hL
    go_enter Tryz.func138, Tryz.ntmps138
    go_wp2_with (go_at_call 175; refine (between_int _ _ _ _).mono ?_; rintro e w' ⟨rfl, rfl⟩; rw [hA])
    clear hcv
    go_loop [4, 12] (fun _ i => ∃ k : Nat, k ≤ n.size ∧ i = .int .i64 k ∧ Hid ((L.drop k).all okByte = L.all okByte)) (fun _ i => n.size - (intOf i).toNat)
    case atStart => exact ⟨0, by omega, rfl, hide rfl⟩
    case round =>
      obtain ⟨k, hk, rfl, H⟩ := hrel
      by_cases hkm : (k : Int) < (n.size : Int)
      · obtain ⟨b2, o2, y, e2, hy, hcell⟩ := HBY.out.cellAt (k := k) (by omega)
        injection e2 with e2
        injection e2 with e2 e3
        subst e2 e3
        have hd := H.out
        rw [all_drop hy] at hd
        have HD := hide hd
        obtain ⟨Z, hZ⟩ : ∃ Z, (decide ((33 : Int) ≤ y.toNat) && decide ((y.toNat : Int) ≤ 126)) = Z := ⟨_, rfl⟩
        have hzy : okByte y = Z := by
          unfold okByte
          rw [← hZ]
          congr 1
          · rw [decide_eq_decide]; omega
          · rw [decide_eq_decide]; omega
        have HZ := hide hzy
        clear hy hd hzy H
        rw [Nat.zero_add] at hcell
        cases Z
        · go_wp2_with (go_at_call 176; refine (between_byte _ _ _ _).mono ?_; rintro e w' ⟨rfl, rfl⟩; rw [hZ])
          go_ret
          refine ⟨?_, HB.out⟩
          rw [← HD.out, HZ.out]
          rfl
        · go_wp2_with (go_at_call 176; refine (between_byte _ _ _ _).mono ?_; rintro e w' ⟨rfl, rfl⟩; rw [hZ])
          go_round
          case rel => exact ⟨k + 1, by omega, by go_num, hide (by rw [← HD.out, HZ.out, Bool.true_and])⟩
          case measure => simp [intOf]; omega
      · go_wp2
        go_ret
        refine ⟨?_, HB.out⟩
        have := H.out
        rw [List.drop_eq_nil_of_le (by have := HL.out; omega)] at this
        rw [← this]
        rfl
theorem spAt_new (w : World) (x : Sp) : SpAt (w.alloc (.cells #[.int .i64 x.t, .int .i64 x.i, .int .i64 x.p, .int .i64 x.s, .int .i64 x.e, .string x.n] 30)) w.heap.size 0 x := fun k u hk => by
  rw [cell_of_row _ w.heap.size (0 + k) _ 30 (0, 0) (heap_alloc_new w _), Nat.zero_add]
  simpa [spC] using hk
structure SpZ (w : World) (g : Nat) (t i p s e : Int) (n : ByteArray) : Prop where
  d0 : w.cell? ⟨g, 0, none⟩ = some (.int .i64 t)
  d1 : w.cell? ⟨g, 1, none⟩ = some (.int .i64 i)
  d2 : w.cell? ⟨g, 2, none⟩ = some (.int .i64 p)
  d3 : w.cell? ⟨g, 3, none⟩ = some (.int .i64 s)
  d4 : w.cell? ⟨g, 4, none⟩ = some (.int .i64 e)
  d5 : w.cell? ⟨g, 5, none⟩ = some (.string n)
theorem SpAt.z {w : World} {g : Nat} {x : Sp} (h : SpAt w g 0 x) : SpZ w g x.t x.i x.p x.s x.e x.n := ⟨h.c0, h.c1, h.c2, h.c3, h.c4, h.c5⟩
set_option maxRecDepth 200000 in
set_option maxHeartbeats 1100000 in
theorem check_any (x : Sp) (hn : x.n.size ≤ 1100000) (w : World) : Calls Tryz.prog 100 #[spV x] w fun e w' => e = .returned (.int .i64 (if x.ok then 0 else 30)) ∧ Below w.heap.size w w' := by
  have h1 := mayStand_any x
  have h2 := mayTake_any x
  have h3 := mayBeCalled_any x.n hn
  obtain ⟨A, hA⟩ : ∃ A, okStand x = A := ⟨_, rfl⟩
  obtain ⟨B, hB⟩ : ∃ A, okTake x = A := ⟨_, rfl⟩
  obtain ⟨C, hC⟩ : ∃ A, okName x.n.data.toList = A := ⟨_, rfl⟩
  have hx : x.ok = (A && B && C) := by unfold Sp.ok Sp.nl; rw [hA, hB, hC]
  rw [hA] at h1
  rw [hB] at h2
  rw [hC] at h3
  rw [hx]
  clear hx hA hB hC
  have hnew := spAt_new w x
  obtain ⟨t, i, p, s, e, n⟩ := x
  unfold spV at *
  dsimp only at *
  have H1 := hide h1
  have H2 := hide h2
  have H3 := hide h3
  have HN := hide hnew
  obtain ⟨R, hR⟩ : ∃ R : Int, (if (A && B && C) = true then 0 else 30) = R := ⟨_, rfl⟩
  rw [hR]
  have HR := hide hR
  clear h1 h2 h3 hnew hR
  cases A
  · go_enter Tryz.func100, Tryz.ntmps100
    go_wp2_with fail
    refine (H1.out _).mono ?_
    rintro e1 w1 ⟨rfl, hb1⟩
    have HB1 := hide (((Below.refl w.heap.size w).alloc (Nat.le_refl _) _).trans (hb1.mono (by simp)))
    clear hb1
    go_wp2
    go_ret
    exact ⟨by rw [← HR.out]; rfl, HB1.out⟩
  · go_enter Tryz.func100, Tryz.ntmps100
    go_wp2_with fail
    refine (H1.out _).mono ?_
    rintro e1 w1 ⟨rfl, hb1⟩
    obtain ⟨d0, d1, d2, d3, d4, d5⟩ := (HN.out.below hb1).z
    have HS1 := hide (HN.out.below hb1)
    have HB1 := hide (((Below.refl w.heap.size w).alloc (Nat.le_refl _) _).trans (hb1.mono (by simp)))
    clear hb1
    dsimp only at d0 d1 d2 d3 d4 d5
    go_wp2_with fail
    refine (H2.out _).mono ?_
    rintro e2 w2 ⟨rfl, hb2⟩
    obtain ⟨f0, f1, f2, f3, f4, f5⟩ := (HS1.out.below hb2).z
    have HB2 := hide (HB1.out.trans (hb2.mono HB1.out.size))
    clear hb2 d0 d1 d2 d3 d4 d5
    dsimp only at f0 f1 f2 f3 f4 f5
    cases B
    · go_wp2
      go_ret
      exact ⟨by rw [← HR.out]; rfl, HB2.out⟩
    · go_wp2_with fail
      refine (H3.out _).mono ?_
      rintro e3 w3 ⟨rfl, hb3⟩
      have HB3 := hide (HB2.out.trans (hb3.mono HB2.out.size))
      clear hb3
      cases C
      all_goals
        go_wp2
        go_ret
        exact ⟨by rw [← HR.out]; rfl, HB3.out⟩
end Go.Proofs.YtionbmlicmibgaaGreatDoor
namespace Go.Proofs.YtionbmlicmibgaaGreatDoor
set_option linter.unusedVariables false
set_option linter.unusedSimpArgs false
open Go.RowKit
def upw (L : List Sp) (id : Int) : Nat → Int → Bool
  | 0, _ => false
  | n + 1, a => match fnd L a with
    | none => false
    | some u => if u.p = id then true else upw L id n u.p
def Ranks (L : List Sp) (r : Int → Nat) : Prop := ∀ x ∈ L, ∀ u, fnd L x.p = some u → r u.i < r x.i
theorem upw_more {L : List Sp} {r : Int → Nat} (hr : Ranks L r) (id : Int) : ∀ (n m : Nat) (a : Int), (∀ u, fnd L a = some u → r u.i < n ∧ r u.i < m) → upw L id n a = upw L id m a := by
  intro n
  induction n with
  | zero =>
    intro m a h
    cases m with
    | zero => rfl
    | succ m =>
      unfold upw
      cases hf : fnd L a with
      | none => rfl
      | some u => have := (h u hf).1; omega
  | succ n ih =>
    intro m a h
    cases m with
    | zero =>
      unfold upw
      cases hf : fnd L a with
      | none => rfl
      | some u => have := (h u hf).2; omega
    | succ m =>
      unfold upw
      cases hf : fnd L a with
      | none => rfl
      | some u =>
        simp only
        split
        · rfl
        · refine ih m u.p fun v hv => ?_
          have h1 := h u hf
          have h2 := hr u (fnd_mem hf).1 v hv
          omega
def rk (L : List Sp) (r : Int → Nat) (a : Int) : Nat := match fnd L a with
  | none => 0
  | some u => r u.i + 1
def ups (L : List Sp) (r : Int → Nat) (id a : Int) : Bool := upw L id (rk L r a) a
theorem rk_some {L : List Sp} {r : Int → Nat} {a : Int} {u : Sp} (h : fnd L a = some u) : rk L r a = r u.i + 1 := by unfold rk; rw [h]
theorem rk_none {L : List Sp} {r : Int → Nat} {a : Int} (h : fnd L a = none) : rk L r a = 0 := by unfold rk; rw [h]
theorem ups_out {L : List Sp} {r : Int → Nat} {id a : Int} (h : fnd L a = none) : ups L r id a = false := by
  unfold ups
  rw [rk_none h]
  rfl
theorem ups_hit {L : List Sp} {r : Int → Nat} {id a : Int} {u : Sp} (h : fnd L a = some u) (hu : u.p = id) : ups L r id a = true := by
  unfold ups
  rw [rk_some h]
  unfold upw
  rw [h]
  simp [hu]
theorem ups_on {L : List Sp} {r : Int → Nat} (hr : Ranks L r) {id a : Int} {u : Sp} (h : fnd L a = some u) (hu : u.p ≠ id) : ups L r id a = ups L r id u.p := by
  unfold ups
  rw [rk_some h]
  conv => lhs; unfold upw
  rw [h]
  simp only [if_neg hu]
  refine upw_more hr id _ _ _ fun v hv => ?_
  have := hr u (fnd_mem h).1 v hv
  rw [rk_some hv]
  omega
def rkOf (r : Int → Nat) (v5 v6 : Value) (wr : World) : Nat := match v6 with
  | .bool true => match v5 with
    | .pointer (some ad) => match wr.cell? ⟨ad.block, 1, none⟩ with
      | some (.int _ n) => r n + 1
      | _ => 0
    | _ => 0
  | _ => 0
theorem rkOf_some {r : Int → Nat} {g : Nat} {wr : World} {u : Sp} (h : SpAt wr g 0 u) : rkOf r (.pointer (some ⟨g, 0, none⟩)) (.bool true) wr = r u.i + 1 := by
  unfold rkOf
  simp only [h.c1]
theorem rkOf_none {r : Int → Nat} {v : Value} {wr : World} : rkOf r v (.bool false) wr = 0 := rfl
set_option maxRecDepth 200000 in
set_option maxHeartbeats 1100000 in
theorem above_any {w : World} {b : Nat} {L : List Sp} {D : DataW Value} (h : BagIs w b L D) {r : Int → Nat} (hr : Ranks L r) (hw : ∀ x ∈ L, (Lit.int .i64 x.p).wf = true) {x : Sp} (hx : (Lit.int .i64 x.p).wf = true) : Calls Tryz.prog 228 #[.map (some b), spV x] w fun e w' => e = .returned (.bool (ups L r x.i x.p)) ∧ Below w.heap.size w w' := by
  have HR := hide hr
  have HW := hide hw
  have hnew := spAt_new w x
  obtain ⟨t, i, p, s, e, nm⟩ := x
  have b1 := (Below.refl w.heap.size w).alloc (Nat.le_refl _) (.cells #[.int .i64 t, .int .i64 i, .int .i64 p, .int .i64 s, .int .i64 e, .string nm] 30)
  unfold spV at *
  dsimp only at *
  obtain ⟨X, hX⟩ : ∃ X, w.alloc (.cells #[.int .i64 t, .int .i64 i, .int .i64 p, .int .i64 s, .int .i64 e, .string nm] 30) = X := ⟨_, rfl⟩
  rw [hX] at hnew b1
  have hb1 : BagIs X b L D := by rw [← hX]; exact h.grown (World.grownBy_alloc w _ none) (by simp)
  have HS := hide hnew
  have HB := hide hb1
  have HB1 := hide b1
  have l1 := (hb1.look hx 0).1
  obtain ⟨u, hu⟩ : ∃ u, (fnd L p).getD sp0 = u := ⟨_, rfl⟩
  obtain ⟨th, hth⟩ : ∃ th, (fnd L p).isSome = th := ⟨_, rfl⟩
  rw [hu, hth] at l1
  have l1' : (Instr.lookup 230 (.map (some b)) (.int .i64 p) true).run Tryz.prog X = .ok (.tuple #[spV u, .bool th]) X := l1
  have c2 := hnew.c2
  have HU := hide (And.intro hu hth)
  clear h hr hw hnew b1 hb1 l1 hx hu hth
  unfold spV at l1'
  dsimp only at *
  go_enter Tryz.func228, Tryz.ntmps228
  go_wp2_with fail
  go_loopw [5, 6] (fun v5 v6 wr => ∃ (g : Nat) (a : Int) (th : Bool), v5 = .pointer (some ⟨g, 0, none⟩) ∧ v6 = .bool th ∧ Hid ((fnd L a).isSome = th ∧ SpAt wr g 0 ((fnd L a).getD sp0) ∧ SpAt wr w.heap.size 0 ⟨t, i, p, s, e, nm⟩ ∧ BagIs wr b L D ∧ Below w.heap.size w wr ∧ w.heap.size < g ∧ ups L r i a = ups L r i p)) (fun v5 v6 wr => rkOf r v5 v6 wr)
  case atStart =>
    refine ⟨X.heap.size, p, th, rfl, rfl, hide ⟨HU.out.2, ?_, ?_, HB.out.grown (World.grownBy_alloc X _ none) (by simp), HB1.out.alloc HB1.out.size _, ?_, rfl⟩⟩
    · rw [HU.out.1]
      exact spAt_new X u
    · exact HS.out.grown (World.grownBy_alloc X _ none) (by simp)
    · have := HS.out.lt
      exact this
  case round =>
    obtain ⟨g, a, th2, rfl, rfl, hrel⟩ := hrel
    obtain ⟨hth2, hg, hx, hbag, hbel, hgw, hups⟩ := hrel.out
    cases th2
    · have hf : fnd L a = none := by simpa using hth2
      have hres : ups L r i p = false := by rw [← hups]; exact ups_out hf
      have HRES := hide hres
      have HBE := hide hbel
      clear hres hf hth2 hg hx hbag hbel hgw hups hrel
      go_wp2
      go_ret
      exact ⟨by rw [HRES.out]; rfl, HBE.out⟩
    · obtain ⟨u2, hf⟩ : ∃ u2, fnd L a = some u2 := Option.isSome_iff_exists.1 hth2
      rw [hf, Option.getD_some] at hg
      by_cases hp : u2.p = i
      · have hres : ups L r i p = true := by rw [← hups]; exact ups_hit hf hp
        have HRES := hide hres
        have HBE := hide hbel
        have d2 := hg.c2
        have e1 := hx.c1
        dsimp only at e1
        rw [hp] at d2
        clear hres hf hth2 hg hx hbag hbel hgw hups hrel
        go_wp2
        go_ret
        exact ⟨by rw [HRES.out]; rfl, HBE.out⟩
      · have hup : ups L r i u2.p = ups L r i p := by rw [← hups]; exact (ups_on HR.out hf hp).symm
        have hz := hbag.grown (World.grownBy_alloc wr (.cells #[.int .i64 u2.t, .int .i64 u2.i, .int .i64 u2.p, .int .i64 u2.s, .int .i64 u2.e, .string u2.n] 30) none) (by simp)
        have l2 := (hz.look (HW.out u2 (fnd_mem hf).1) 0).1
        obtain ⟨v, hv⟩ : ∃ v, (fnd L u2.p).getD sp0 = v := ⟨_, rfl⟩
        obtain ⟨th3, hth3⟩ : ∃ th, (fnd L u2.p).isSome = th := ⟨_, rfl⟩
        rw [hv, hth3] at l2
        have l2' : (Instr.lookup 230 (.map (some b)) (.int .i64 u2.p) true).run Tryz.prog (wr.alloc (.cells #[.int .i64 u2.t, .int .i64 u2.i, .int .i64 u2.p, .int .i64 u2.s, .int .i64 u2.e, .string u2.n] 30)) = .ok (.tuple #[.agg #[.int .i64 v.t, .int .i64 v.i, .int .i64 v.p, .int .i64 v.s, .int .i64 v.e, .string v.n], .bool th3]) (wr.alloc (.cells #[.int .i64 u2.t, .int .i64 u2.i, .int .i64 u2.p, .int .i64 u2.s, .int .i64 u2.e, .string u2.n] 30)) := l2
        obtain ⟨d0, d1, d2, d3, d4, d5⟩ := hg.z
        have e1 := hx.c1
        dsimp only at e1
        have HV := hide (And.intro hv hth3)
        have HF := hide hf
        have HP := hide hp
        have HUP := hide hup
        have HG := hide hg
        have HX2 := hide (And.intro hx (And.intro hbag (And.intro hbel hgw)))
        have hpi : (u2.p == i) = false := beq_eq_false_iff_ne.2 hp
        clear l2 hz hup hv hth3 hf hth2 hg hx hbag hbel hgw hups hrel
        go_wp2
        refine ⟨⟨wr.heap.size, u2.p, th3, rfl, rfl, hide ⟨HV.out.2, ?_, HX2.out.1.grown (World.grownBy_alloc wr _ none) (by simp), HX2.out.2.1.grown (World.grownBy_alloc wr _ none) (by simp), HX2.out.2.2.1.alloc HX2.out.2.2.1.size _, ?_, HUP.out⟩⟩, ?_⟩
        · rw [HV.out.1]
          exact spAt_new wr v
        · exact HX2.out.1.lt
        · rw [rkOf_some HG.out]
          cases th3 with
          | false => rw [rkOf_none]; omega
          | true =>
            obtain ⟨v', hv'⟩ : ∃ v', fnd L u2.p = some v' := Option.isSome_iff_exists.1 HV.out.2
            have hvv := HV.out.1
            rw [hv', Option.getD_some] at hvv
            subst hvv
            rw [rkOf_some (spAt_new wr v')]
            have := HR.out u2 (fnd_mem HF.out).1 v' hv'
            omega
end Go.Proofs.YtionbmlicmibgaaGreatDoor
namespace Go.Proofs.YtionbmlicmibgaaGreatDoor
set_option linter.unusedVariables false
set_option linter.unusedSimpArgs false
open Go.RowKit
noncomputable def ring (L : List Sp) (id a : Int) : Bool := by
  classical exact decide (∃ n, upw L id n a = true)
theorem ring_iff {L : List Sp} {id a : Int} : ring L id a = true ↔ ∃ n, upw L id n a = true := by
  unfold ring
  simp
theorem upw_mono {L : List Sp} {id : Int} : ∀ {n m : Nat} {a : Int}, n ≤ m → upw L id n a = true → upw L id m a = true
  | 0, _, _, _, h => by cases h
  | n + 1, 0, _, hm, _ => by omega
  | n + 1, m + 1, a, hm, h => by
    unfold upw at h ⊢
    cases hf : fnd L a with
    | none => rw [hf] at h; exact h
    | some u =>
      rw [hf] at h
      simp only at h ⊢
      by_cases hp : u.p = id
      · rw [if_pos hp]
      · rw [if_neg hp] at h ⊢
        exact upw_mono (by omega) h
theorem ups_ring {L : List Sp} {r : Int → Nat} (hr : Ranks L r) (id a : Int) : ups L r id a = ring L id a := by
  have key : ∀ m, rk L r a ≤ m → upw L id (rk L r a) a = upw L id m a := fun m hm => upw_more hr id _ _ _ fun u hu => by
    rw [rk_some hu] at *
    omega
  rw [Bool.eq_iff_iff, ring_iff]
  constructor
  · intro h
    exact ⟨_, h⟩
  · rintro ⟨n, hn⟩
    unfold ups
    rw [key (max n (rk L r a)) (by omega)]
    exact upw_mono (by omega) hn
theorem ring_out {L : List Sp} {id a : Int} (h : fnd L a = none) : ring L id a = false := by
  rw [Bool.eq_false_iff, ne_eq, ring_iff]
  rintro ⟨n, hn⟩
  cases n with
  | zero => cases hn
  | succ n => unfold upw at hn; rw [h] at hn; cases hn
theorem ring_hit {L : List Sp} {id a : Int} {u : Sp} (h : fnd L a = some u) (hu : u.p = id) : ring L id a = true := by
  rw [ring_iff]
  refine ⟨1, ?_⟩
  unfold upw
  rw [h]
  simp [hu]
theorem ring_on {L : List Sp} {id a : Int} {u : Sp} (h : fnd L a = some u) (hu : u.p ≠ id) : ring L id a = ring L id u.p := by
  rw [Bool.eq_iff_iff, ring_iff, ring_iff]
  constructor
  · rintro ⟨n, hn⟩
    cases n with
    | zero => cases hn
    | succ n =>
      unfold upw at hn
      rw [h] at hn
      simp only [if_neg hu] at hn
      exact ⟨n, hn⟩
  · rintro ⟨n, hn⟩
    refine ⟨n + 1, ?_⟩
    unfold upw
    rw [h]
    simp only [if_neg hu]
    exact hn
def NoRing (L : List Sp) : Prop := ∃ r, Ranks L r
theorem noRing_nil : NoRing [] := ⟨fun _ => 0, fun x hx => by simp at hx⟩
theorem noRing_add {L : List Sp} (hid : L.Pairwise fun x y => x.i ≠ y.i) (h : NoRing L) {x : Sp} (hn : fnd L x.i = none) (hr : ring L x.i x.p = false) (hp : x.p ≠ x.i) : NoRing (L ++ [x]) := by
  obtain ⟨r, hR⟩ := h
  refine ⟨fun k => if k = x.i then rk L r x.p else if ring L x.i k = true then r k + (rk L r x.p + 1) else r k, fun y hy u hu => ?_⟩
  rw [fnd_add] at hu
  have ne_of : ∀ {k v}, fnd L k = some v → v.i ≠ x.i := fun {k v} hv => fnd_none.1 hn v (fnd_mem hv).1
  simp only
  rcases List.mem_append.1 hy with hy | hy
  · have hyi : y.i ≠ x.i := fnd_none.1 hn y hy
    have hfy := fnd_of hid hy
    rw [if_neg hyi]
    cases hf : fnd L y.p with
    | some v =>
      rw [hf] at hu
      simp only [Option.some_or, Option.some.injEq] at hu
      subst hu
      have hvi := ne_of hf
      have hvp := (fnd_mem hf).2
      rw [if_neg hvi]
      have hyp : y.p ≠ x.i := fun e => hvi (hvp.trans e)
      rw [ring_on hfy hyp, ← hvp]
      have := hR y hy v hf
      split <;> omega
    | none =>
      rw [hf] at hu
      simp only [Option.none_or] at hu
      by_cases e : x.i = y.p
      · rw [if_pos e] at hu
        injection hu with hu
        subst hu
        rw [if_pos rfl, if_pos (ring_hit hfy e.symm)]
        omega
      · rw [if_neg e] at hu
        cases hu
  · simp only [List.mem_cons, List.not_mem_nil, or_false] at hy
    subst hy
    rw [if_pos rfl]
    cases hf : fnd L y.p with
    | some v =>
      rw [hf] at hu
      simp only [Option.some_or, Option.some.injEq] at hu
      subst hu
      have hvi := ne_of hf
      have hvp := (fnd_mem hf).2
      rw [if_neg hvi, if_neg (by rw [hvp, hr]; simp), rk_some hf]
      omega
    | none =>
      rw [hf] at hu
      simp only [Option.none_or] at hu
      by_cases e : y.i = y.p
      · exact absurd e.symm hp
      · rw [if_neg e] at hu
        cases hu
end Go.Proofs.YtionbmlicmibgaaGreatDoor
namespace Go.Proofs.YtionbmlicmibgaaGreatDoor
set_option linter.unusedVariables false
set_option linter.unusedSimpArgs false
open Go.RowKit Go.Lib
theorem name_beq (a b : ByteArray) : (a.toList == b.toList) = decide (a = b) := by
  rw [Bool.eq_iff_iff, decide_eq_true_eq, beq_iff_eq, ByteArray.toList_eq, ByteArray.toList_eq]
  constructor
  · intro h
    obtain ⟨⟨x⟩⟩ := a
    obtain ⟨⟨y⟩⟩ := b
    simp only at h
    rw [h]
  · rintro rfl
    rfl
theorem sp_beq (x y : Sp) : (x.t == y.t && (x.i == y.i && (x.p == y.p && (x.s == y.s && (x.e == y.e && (x.n.toList == y.n.toList)))))) = decide (x = y) := by
  obtain ⟨a, b, c, d, e, f⟩ := x
  obtain ⟨a', b', c', d', e', f'⟩ := y
  dsimp only
  rw [name_beq, Bool.eq_iff_iff]
  simp [Sp.mk.injEq]
theorem sp_eql (x y : Sp) (w : World) : (binOp .eql 30 (.agg (spC x).toArray) (.agg (spC y).toArray)).run Tryz.prog w = .ok (.bool (decide (x = y))) w := by
  have u3 := Tryz.underlying3
  have u9 := Tryz.underlying9
  have a3 := Tryz.isAgg3
  have z3 := Tryz.sizeOf3
  have a9 := Tryz.isAgg9
  have z9 := Tryz.sizeOf9
  have hS : Tryz.prog.underlying 30 = some (.struct (Tryz.prog.fieldsOf 30)) := by kernel_rfl
  have hp : Tryz.prog.stoodInHeld 30 = false := by kernel_rfl
  rw [← sp_beq]
  simp only [spC]
  rw [run_eql_struct, show (10000 : Nat) = 9999 + 1 from rfl, run_equalIn_agg w 9999 30 _ _ hS hp]
  simp only [Program.fieldsOf, Tryz.underlying30]
  go_simp
  (repeat' split) <;> simp_all
theorem span_neq : NeqAt Tryz.prog 30 (fun x : Sp => .agg (spC x).toArray) (fun x y => decide (x = y)) := by
  refine ⟨fun x y w => ?_, GuardAt.agg (fun x : Sp => (spC x).toArray) (by kernel_rfl)⟩
  have h := sp_eql x y w
  rw [run_eql_struct] at h
  rw [run_neq_struct]
  cases hr : (Op.equalIn 10000 30 (.agg (spC x).toArray) (.agg (spC y).toArray)).run Tryz.prog w with
  | ok b w' =>
    rw [hr] at h
    simp only [Result.andThen_ok, Result.ok.injEq, Value.bool.injEq] at h ⊢
    rw [h.1]
    exact ⟨rfl, h.2⟩
  | halt x w' =>
    rw [hr] at h
    simp [Result.andThen] at h
theorem allEq_dec : ∀ l m : List Sp, Lib.allEq (fun x y => decide (x = y)) l m = decide (l = m)
  | [], [] => rfl
  | [], _ :: _ => rfl
  | _ :: _, [] => rfl
  | x :: r, y :: s => by
    rw [Lib.allEq, allEq_dec r s, Bool.eq_iff_iff]
    simp
set_option maxRecDepth 200000 in
set_option maxHeartbeats 400000 in
theorem equalSp_any {w : World} {v1 v2 : Value} {l1 l2 : List Sp} (h1 : Sps w v1 l1) (h2 : Sps w v2 l2) :
    Calls Tryz.prog 67 #[v1, v2] w fun e w' => e = .returned (.bool (decide (l1 = l2))) ∧ ∃ q, w' = w.drewN q := by
  obtain ⟨p1, n1, c1, rfl⟩ := h1.sl
  obtain ⟨p2, n2, c2, rfl⟩ := h2.sl
  obtain ⟨hn1, hc1, hm1⟩ := h1.len
  obtain ⟨hn2, hc2, hm2⟩ := h2.len
  unfold maxLen at hm1 hm2
  by_cases hne : n1 = n2
  · subst hne
    by_cases h0 : 0 < n1
    · obtain ⟨g1, o1, rfl, hx1⟩ := h1.at_ h0
      obtain ⟨g2, o2, rfl, hx2⟩ := h2.at_ h0
      have := AnyQ.slices_Equal Tryz.equalSp 6 Tryz.isAgg30 Tryz.sizeOf30 spC spC_length (fun x y => decide (x = y)) span_neq g1 o1 n1 c1 g2 o2 n1 c2 l1 l2 w (by omega) (by omega) (by omega) (by omega)
        (fun j hj i v hi => by
          have hj' : l1[j]? = some l1[j]! := by rw [List.getElem?_eq_getElem hj, getElem!_pos l1 j hj]
          exact hx1 j _ hj' i v hi)
        (fun j hj i v hi => by
          have hj' : l2[j]? = some l2[j]! := by rw [List.getElem?_eq_getElem hj, getElem!_pos l2 j hj]
          exact hx2 j _ hj' i v hi)
      refine this.mono fun e w' ⟨he, hw⟩ => ⟨?_, hw⟩
      rw [he, List.take_of_length_le (by omega), List.take_of_length_le (by omega), allEq_dec]
    · obtain rfl : l1 = [] := List.eq_nil_of_length_eq_zero (by omega)
      obtain rfl : l2 = [] := List.eq_nil_of_length_eq_zero (by omega)
      obtain rfl : n1 = 0 := by omega
      clear h1 h2 hn1 hn2 h0
      rw [decide_eq_true rfl]
      go_enter Tryz.func67, Tryz.ntmps67
      go_wp2
      refine wp_loop_rounds 1 ?_
      rw [rounds_succ]
      go_wp2
      go_ret
      exact ⟨rfl, 0, rfl⟩
  · have hd : decide (l1 = l2) = false := decide_eq_false (by rintro rfl; omega)
    rw [hd]
    have hi : ¬ (n1 : Int) = (n2 : Int) := by omega
    clear h1 h2 hd hn1 hn2
    go_enter Tryz.func67, Tryz.ntmps67
    go_wp2
    go_ret
    exact ⟨rfl, 0, rfl⟩
theorem Tryz.infoSp' : (Tryz.prog.info? 30).map (fun i => (i.zero, i.size, i.bytes)) = some (some (.agg #[.int .i64 0, .int .i64 0, .int .i64 0, .int .i64 0, .int .i64 0, .string ⟨#[]⟩]), 6, 56) := by kernel_rfl
theorem flat_get {l : List Sp} {j : Nat} {u : Value} (h : (l.flatMap spC)[j]? = some u) : ∃ x, l[j / 6]? = some x ∧ (spC x)[j % 6]? = some u := by
  have hj := (List.getElem?_eq_some_iff.1 h).1
  rw [flat_len] at hj
  have hx : l[j / 6]? = some (l[j / 6]'(by omega)) := List.getElem?_eq_getElem _
  refine ⟨_, hx, ?_⟩
  rw [← flat_at l (j / 6) (j % 6) hx (Nat.mod_lt _ (by omega)), show j / 6 * 6 + j % 6 = j by omega]
  exact h
set_option maxRecDepth 200000 in
set_option maxHeartbeats 400000 in
theorem cloneSp_any {w : World} {v : Value} {l : List Sp} (h : Sps w v l) (hl : l.length ≤ 1100000) :
    Calls Tryz.prog 16 #[v] w fun e w' => ∃ v', e = .returned v' ∧ OwnS w.heap.size w' v' l ∧ Below w.heap.size w w' := by
  obtain ⟨p, n, c, rfl⟩ := h.sl
  obtain ⟨hn, hnc, hm⟩ := h.len
  have qsp : ∀ (w : World) (a : Option Addr) (n c n' c' : Nat), (binOp .eql 22 (.slice a n c) (.slice none n' c')).run Tryz.prog w = .ok (.bool a.isNone) w := fun w a n c n' c' => Lib.run_eql_slice_nil w _ _ a n c n' c' Tryz.underlying22
  rcases p with _ | a
  · obtain rfl : l = [] := by
      obtain ⟨p', c', e, _, _, hn0, _⟩ := h
      injection e with e1 e2 e3
      subst e1
      exact List.eq_nil_of_length_eq_zero (by have := hn0 rfl; omega)
    go_enter Tryz.func16, Tryz.ntmps16
    go_wp2
    go_ret
    exact ⟨_, rfl, OwnS.nil _ _, Below.refl _ _⟩
  · obtain ⟨i0, hi, hz0, hz1, hz2⟩ := info_parts Tryz.infoSp'
    have A := hide h
    have HN := hide hn
    clear h hn
    go_enter Tryz.func16, Tryz.ntmps16
    go_wp2_with (at_builtin; refine wpList_append_own _ rfl _ _ 22 rfl w.heap.size 30 i0 (.agg #[.int .i64 0, .int .i64 0, .int .i64 0, .int .i64 0, .int .i64 0, .string ⟨#[]⟩]) 6 56 Tryz.underlying22 hi hz0 hz1 hz2 rfl (by decide) _ _ _ rfl (World.ownsRow_made w #[] 0 (Nat.le_refl _) (Nat.zero_le _) rfl) a n c (l.flatMap spC) rfl ?qc1 ?qc2 ?qc3 ?qc4 ?qc5 ?qc6 ?_)
    case qc1 => rw [flat_len, HN.out]
    case qc2 =>
      intro j u hj
      obtain ⟨x, hx, hu⟩ := flat_get hj
      have hpos : 0 < n := by
        have := (List.getElem?_eq_some_iff.1 hx).1
        have := HN.out
        omega
      obtain ⟨g, o, e, hc⟩ := A.out.at_ hpos
      injection e with e
      subst e
      have := hc (j / 6) x hx (j % 6) u hu
      rw [show o + j / 6 * 6 + j % 6 = o + j by omega] at this
      refine Lib.cell?_alloc_some _ ?_
      rw [add_lit0]
      exact this
    case qc3 =>
      intro u hu
      obtain ⟨x, _, hx⟩ := List.mem_flatMap.1 hu
      exact spC_one x u hx
    case qc4 => have := HN.out; simp only [maxLen]; omega
    case qc5 => have := HN.out; omega
    case qc6 => simp
    intro v' w1 hown hgrow hnil
    go_wp2
    go_ret
    refine ⟨v', rfl, ?_, ?_⟩
    · unfold OwnS
      rw [← HN.out]
      simpa using hown
    · exact ((Below.refl _ w).alloc (Nat.le_refl _) _).grown hgrow (by simp) (by intro k hk; simp [Value.ownBlock] at hk; omega)
end Go.Proofs.YtionbmlicmibgaaGreatDoor
namespace Go.Proofs.YtionbmlicmibgaaGreatDoor
open Go.RowKit
structure Chg (w w' : World) (S : Nat → Prop) : Prop where
  os : w'.os = w.os
  tape : w'.tape = w.tape
  output : w'.output = w.output
  size : w.heap.size ≤ w'.heap.size
  block : ∀ k, k < w.heap.size → ¬ S k → w'.heap[k]? = w.heap[k]?
theorem Chg.refl (w : World) (S : Nat → Prop) : Chg w w S := ⟨rfl, rfl, rfl, Nat.le_refl _, fun _ _ _ => rfl⟩
theorem Chg.trans {a b c : World} {S S' : Nat → Prop} (h : Chg a b S) (h' : Chg b c S') (hs : ∀ k, S' k → S k ∨ a.heap.size ≤ k) : Chg a c S :=
  ⟨h'.os.trans h.os, h'.tape.trans h.tape, h'.output.trans h.output, Nat.le_trans h.size h'.size, fun k hk hn =>
    (h'.block k (Nat.lt_of_lt_of_le hk h.size) (fun h1 => by
      rcases hs k h1 with h2 | h2
      · exact hn h2
      · omega)).trans (h.block k hk hn)⟩
theorem Chg.mono {w w' : World} {S S' : Nat → Prop} (h : Chg w w' S) (hs : ∀ k, S k → S' k) : Chg w w' S' :=
  ⟨h.os, h.tape, h.output, h.size, fun k hk hn => h.block k hk fun h1 => hn (hs k h1)⟩
theorem Chg.of_grown {w w' : World} {row : Option Nat} (h : w.grownBy w' row) (S : Nat → Prop) (hs : ∀ k, row = some k → S k ∨ w.heap.size ≤ k) : Chg w w' S :=
  ⟨h.os, h.tape, h.output, h.size, fun k hk hn => h.block k hk fun e => by
    rcases hs k e.symm with h1 | h1
    · exact hn h1
    · omega⟩
theorem Chg.of_below {w w' : World} (h : Below w.heap.size w w') (S : Nat → Prop) : Chg w w' S := ⟨h.os, h.tape, h.output, h.size, fun k hk _ => h.block k hk⟩
theorem Chg.drewN {w w' : World} {S : Nat → Prop} (h : Chg w w' S) (n : Nat) : Chg w (w'.drewN n) S := ⟨h.os, h.tape, h.output, h.size, h.block⟩
theorem Chg.to_below {w0 w w' : World} {S : Nat → Prop} (hb : Below w0.heap.size w0 w) (h : Chg w w' S) (hs : ∀ k, S k → w0.heap.size ≤ k) : Below w0.heap.size w0 w' :=
  ⟨h.os.trans hb.os, h.tape.trans hb.tape, h.output.trans hb.output, Nat.le_trans hb.size h.size, fun k hk => (h.block k (Nat.lt_of_lt_of_le hk hb.size) (fun h1 => by have := hs k h1; omega)).trans (hb.block k hk)⟩
theorem Chg.cell {w w' : World} {S : Nat → Prop} (h : Chg w w' S) {a : Addr} {v : Value} (hc : w.cell? a = some v) (hn : ¬ S a.block) : w'.cell? a = some v :=
  (World.cell?_of_block (h.block a.block (World.block_lt_of_cell? w a hc) hn)).trans hc
theorem Chg.set {w w' : World} {S : Nat → Prop} (h : Chg w w' S) {g i : Nat} (x : Value) (hg : S g ∨ w.heap.size ≤ g) : Chg w (w'.setCell ⟨g, i, none⟩ x) S :=
  ⟨h.os, h.tape, h.output, by have := h.size; simpa [World.setCell] using this, fun k hk hn => (heap_setCell_other w' ⟨g, i, none⟩ k _ (by
    rcases hg with hg | hg
    · exact fun e => hn (by simp at e; rw [e]; exact hg)
    · simp; omega)).trans (h.block k hk hn)⟩
theorem Chg.alloc {w w' : World} {S : Nat → Prop} (h : Chg w w' S) (o : Obj) : Chg w (w'.alloc o) S :=
  h.trans (Chg.of_grown (World.grownBy_alloc w' o none) (fun _ => False) (fun k e => by cases e)) (fun k e => e.elim)
end Go.Proofs.YtionbmlicmibgaaGreatDoor
namespace Go.Proofs.YtionbmlicmibgaaGreatDoor
set_option linter.unusedVariables false
set_option linter.unusedSimpArgs false
open Go.RowKit
structure Cn where
  add : Nat
  same : Nat
  other : Nat
  cyc : Nat
  full : Nat
def Cn.sum (c : Cn) : Nat := c.add + c.same + c.other + c.cyc + c.full
structure CnAt (w : World) (g : Nat) (c : Cn) : Prop where
  c0 : w.cell? ⟨g, 0, none⟩ = some (.int .i64 (c.add : Nat))
  c1 : w.cell? ⟨g, 1, none⟩ = some (.int .i64 (c.same : Nat))
  c2 : w.cell? ⟨g, 2, none⟩ = some (.int .i64 (c.other : Nat))
  c3 : w.cell? ⟨g, 3, none⟩ = some (.int .i64 (c.cyc : Nat))
  c4 : w.cell? ⟨g, 4, none⟩ = some (.int .i64 (c.full : Nat))
  fr : ∀ k, k < 5 → w.frozen? ⟨g, k, none⟩ = false
theorem CnAt.alloc {w : World} {g : Nat} {c : Cn} (h : CnAt w g c) (o : Obj) : CnAt (w.alloc o) g c :=
  ⟨Lib.cell?_alloc_some _ h.c0, Lib.cell?_alloc_some _ h.c1, Lib.cell?_alloc_some _ h.c2, Lib.cell?_alloc_some _ h.c3, Lib.cell?_alloc_some _ h.c4, fun k hk => by rw [World.frozen?_alloc_past _ _ _ (lt_of_cell h.c0)]; exact h.fr k hk⟩
theorem CnAt.s0 {w : World} {g : Nat} {c : Cn} (h : CnAt w g c) : CnAt (w.setCell ⟨g, 0, none⟩ (.int .i64 ((c.add : Int) + 1))) g { c with add := c.add + 1 } :=
  ⟨by rw [World.cell?_setCell_same (h := h.c0)]; simp, by rw [World.cell?_setCell_other _ _ _ _ (by simp)]; exact h.c1, by rw [World.cell?_setCell_other _ _ _ _ (by simp)]; exact h.c2, by rw [World.cell?_setCell_other _ _ _ _ (by simp)]; exact h.c3, by rw [World.cell?_setCell_other _ _ _ _ (by simp)]; exact h.c4, fun k hk => by rw [World.frozen?_setCell]; exact h.fr k hk⟩
theorem CnAt.s1 {w : World} {g : Nat} {c : Cn} (h : CnAt w g c) : CnAt (w.setCell ⟨g, 1, none⟩ (.int .i64 ((c.same : Int) + 1))) g { c with same := c.same + 1 } :=
  ⟨by rw [World.cell?_setCell_other _ _ _ _ (by simp)]; exact h.c0, by rw [World.cell?_setCell_same (h := h.c1)]; simp, by rw [World.cell?_setCell_other _ _ _ _ (by simp)]; exact h.c2, by rw [World.cell?_setCell_other _ _ _ _ (by simp)]; exact h.c3, by rw [World.cell?_setCell_other _ _ _ _ (by simp)]; exact h.c4, fun k hk => by rw [World.frozen?_setCell]; exact h.fr k hk⟩
theorem CnAt.s2 {w : World} {g : Nat} {c : Cn} (h : CnAt w g c) : CnAt (w.setCell ⟨g, 2, none⟩ (.int .i64 ((c.other : Int) + 1))) g { c with other := c.other + 1 } :=
  ⟨by rw [World.cell?_setCell_other _ _ _ _ (by simp)]; exact h.c0, by rw [World.cell?_setCell_other _ _ _ _ (by simp)]; exact h.c1, by rw [World.cell?_setCell_same (h := h.c2)]; simp, by rw [World.cell?_setCell_other _ _ _ _ (by simp)]; exact h.c3, by rw [World.cell?_setCell_other _ _ _ _ (by simp)]; exact h.c4, fun k hk => by rw [World.frozen?_setCell]; exact h.fr k hk⟩
theorem CnAt.s3 {w : World} {g : Nat} {c : Cn} (h : CnAt w g c) : CnAt (w.setCell ⟨g, 3, none⟩ (.int .i64 ((c.cyc : Int) + 1))) g { c with cyc := c.cyc + 1 } :=
  ⟨by rw [World.cell?_setCell_other _ _ _ _ (by simp)]; exact h.c0, by rw [World.cell?_setCell_other _ _ _ _ (by simp)]; exact h.c1, by rw [World.cell?_setCell_other _ _ _ _ (by simp)]; exact h.c2, by rw [World.cell?_setCell_same (h := h.c3)]; simp, by rw [World.cell?_setCell_other _ _ _ _ (by simp)]; exact h.c4, fun k hk => by rw [World.frozen?_setCell]; exact h.fr k hk⟩
theorem CnAt.s4 {w : World} {g : Nat} {c : Cn} (h : CnAt w g c) : CnAt (w.setCell ⟨g, 4, none⟩ (.int .i64 ((c.full : Int) + 1))) g { c with full := c.full + 1 } :=
  ⟨by rw [World.cell?_setCell_other _ _ _ _ (by simp)]; exact h.c0, by rw [World.cell?_setCell_other _ _ _ _ (by simp)]; exact h.c1, by rw [World.cell?_setCell_other _ _ _ _ (by simp)]; exact h.c2, by rw [World.cell?_setCell_other _ _ _ _ (by simp)]; exact h.c3, by rw [World.cell?_setCell_same (h := h.c4)]; simp, fun k hk => by rw [World.frozen?_setCell]; exact h.fr k hk⟩
theorem CnAt.below {w w' : World} {g : Nat} {c : Cn} (h : CnAt w g c) (hb : Below w.heap.size w w') : CnAt w' g c :=
  ⟨(hb.cell (lt_of_cell h.c0)).trans h.c0, (hb.cell (lt_of_cell h.c1)).trans h.c1, (hb.cell (lt_of_cell h.c2)).trans h.c2, (hb.cell (lt_of_cell h.c3)).trans h.c3, (hb.cell (lt_of_cell h.c4)).trans h.c4, fun k hk => (hb.frozen (p := ⟨g, k, none⟩) (show g < w.heap.size from lt_of_cell h.c0)).trans (h.fr k hk)⟩
theorem CnAt.grown {w w' : World} {g : Nat} {c : Cn} {row : Option Nat} (h : CnAt w g c) (hg : w.grownBy w' row) (hne : row ≠ some g) : CnAt w' g c :=
  have hb : w'.heap[g]? = w.heap[g]? := hg.block g (lt_of_cell h.c0) (fun e => hne e.symm)
  ⟨(World.cell?_of_block hb).trans h.c0, (World.cell?_of_block hb).trans h.c1, (World.cell?_of_block hb).trans h.c2, (World.cell?_of_block hb).trans h.c3, (World.cell?_of_block hb).trans h.c4, fun k hk => (World.frozen?_of_block (a := ⟨g, k, none⟩) hb).trans (h.fr k hk)⟩
theorem Chg.belowed {a b c : World} {S : Nat → Prop} (h : Chg a b S) (h' : Below b.heap.size b c) : Chg a c S := h.trans (Chg.of_below h' (fun _ => False)) (fun k e => e.elim)
theorem put_fin {w X : World} {b gc i : Nat} {L : List Sp} {D : DataW Value} (h : BagIs X b L D ∧ Chg w X fun k => k = b ∨ k = gc) (hne : gc ≠ b) (v : Value) (o : Obj) : BagIs ((X.setCell ⟨gc, i, none⟩ v).alloc o) b L D ∧ Chg w ((X.setCell ⟨gc, i, none⟩ v).alloc o) fun k => k = b ∨ k = gc :=
  ⟨(h.1.grown (grown_set X gc i v) (fun e => hne (by injection e))).grown (World.grownBy_alloc _ o none) (by simp), (h.2.set v (.inl (.inr rfl))).alloc o⟩
noncomputable def putP (L : List Sp) (c : Cn) (x : Sp) : List Sp × Cn := match fnd L x.i with
  | some o => if o = x then (L, { c with same := c.same + 1 }) else (L, { c with other := c.other + 1 })
  | none => if 64 ≤ L.length then (L, { c with full := c.full + 1 }) else if ring L x.i x.p = true then (L, { c with cyc := c.cyc + 1 }) else (L ++ [x], { c with add := c.add + 1 })
set_option maxRecDepth 200000 in
set_option maxHeartbeats 1100000 in
theorem put_any {w : World} {b : Nat} {L : List Sp} {D : DataW Value} {x : Sp} {gc : Nat} {c : Cn} (h : BagIs w b L D) (hr : NoRing L) (hw : ∀ x ∈ L, (Lit.int .i64 x.p).wf = true) (hxi : (Lit.int .i64 x.i).wf = true) (hxp : (Lit.int .i64 x.p).wf = true) (hL : L.length ≤ 64) (hc : CnAt w gc c) (hcs : c.sum ≤ 1100000) (hne : gc ≠ b) :
    Calls Tryz.prog 222 #[.map (some b), spV x, .pointer (some ⟨gc, 0, none⟩)] w fun e w' => e = .returned (.tuple #[]) ∧ (∃ D', BagIs w' b (putP L c x).1 D') ∧ CnAt w' gc (putP L c x).2 ∧ Chg w w' (fun k => k = b ∨ k = gc) := by
  obtain ⟨r, hr⟩ := hr
  have HR := hide hr
  have HW := hide hw
  have hnew := spAt_new w x
  have hu0 := sp_eql ((fnd L x.i).getD sp0) x
  obtain ⟨t, i, p, s, e, nm⟩ := x
  obtain ⟨na, ns, no, ny, nf⟩ := c
  unfold Cn.sum at hcs
  unfold spV at *
  unfold spC at *
  dsimp only at *
  obtain ⟨X, hX⟩ : ∃ X, w.alloc (.cells #[.int .i64 t, .int .i64 i, .int .i64 p, .int .i64 s, .int .i64 e, .string nm] 30) = X := ⟨_, rfl⟩
  have hb1 : BagIs X b L D := by rw [← hX]; exact h.grown (World.grownBy_alloc w _ none) (by simp)
  have hchg : Chg w X (fun k => k = b ∨ k = gc) := by rw [← hX]; exact (Chg.refl w _).alloc _
  rw [hX] at hnew
  have l1 := (hb1.look hxi 0).1
  obtain ⟨u, hu⟩ : ∃ u, (fnd L i).getD sp0 = u := ⟨_, rfl⟩
  obtain ⟨th, hth⟩ : ∃ th, (fnd L i).isSome = th := ⟨_, rfl⟩
  rw [hu] at hu0
  rw [hu, hth] at l1
  have l1' : (Instr.lookup 230 (.map (some b)) (.int .i64 i) true).run Tryz.prog X = .ok (.tuple #[spV u, .bool th]) X := l1
  obtain ⟨c0, c1, c2, c3, c4, c5⟩ := hnew.z
  dsimp only at c0 c1 c2 c3 c4 c5
  have hcX : CnAt X gc ⟨na, ns, no, ny, nf⟩ := by
    rw [← hX]
    exact ⟨Lib.cell?_alloc_some _ hc.c0, Lib.cell?_alloc_some _ hc.c1, Lib.cell?_alloc_some _ hc.c2, Lib.cell?_alloc_some _ hc.c3, Lib.cell?_alloc_some _ hc.c4, fun k hk => by rw [World.frozen?_alloc_past _ _ _ (lt_of_cell hc.c0)]; exact hc.fr k hk⟩
  unfold spV at l1'
  have hgX : gc < X.heap.size := lt_of_cell hcX.c0
  have hgn : gc ≠ X.heap.size := by omega
  have hwX : w.heap.size < X.heap.size := hnew.lt
  have hwn : w.heap.size ≠ X.heap.size := by omega
  have HX := hide (And.intro hb1 hchg)
  have HC := hide hcX
  obtain ⟨k0, k1, k2, k3, k4, kf⟩ := hcX
  have kf0 := kf 0 (by omega)
  have kf1 := kf 1 (by omega)
  have kf2 := kf 2 (by omega)
  have kf3 := kf 3 (by omega)
  have kf4 := kf 4 (by omega)
  dsimp only at k0 k1 k2 k3 k4
  have hna : (na : Int) ≤ 1100000 := by omega
  have hns : (ns : Int) ≤ 1100000 := by omega
  have hno : (no : Int) ≤ 1100000 := by omega
  have hny : (ny : Int) ≤ 1100000 := by omega
  have hnf : (nf : Int) ≤ 1100000 := by omega
  have HNE := hide hne
  have HN := hide hnew
  clear kf hb1 hchg h hc hcs l1 hw hr hu0 hne hnew
  go_enter Tryz.func222, Tryz.ntmps222
  cases th
  · have hf : fnd L i = none := by simpa using hth
    rw [hf, Option.getD_none] at hu
    subst hu
    unfold sp0 at *
    dsimp only at *
    obtain ⟨Z, hZ⟩ : ∃ Z, X.alloc (.cells #[.int .i64 0, .int .i64 0, .int .i64 0, .int .i64 0, .int .i64 0, .string ByteArray.empty] 30) = Z := ⟨_, rfl⟩
    have hbz : BagIs Z b L D := by rw [← hZ]; exact HX.out.1.grown (World.grownBy_alloc X _ none) (by simp)
    have hcz : Chg w Z (fun k => k = b ∨ k = gc) := by rw [← hZ]; exact HX.out.2.alloc _
    have hnz : CnAt Z gc ⟨na, ns, no, ny, nf⟩ := by rw [← hZ]; exact HC.out.alloc _
    have hxz : SpAt Z w.heap.size 0 ⟨t, i, p, s, e, nm⟩ := by rw [← hZ]; exact HN.out.grown (World.grownBy_alloc X _ none) (by simp)
    have hlen := hbz.map.len Tryz.underlying230 3
    rw [hbz.size] at hlen
    obtain ⟨z0, z1, z2, z3, z4, zf⟩ := hnz
    have zf0 := zf 0 (by omega)
    have zf1 := zf 1 (by omega)
    have zf2 := zf 2 (by omega)
    have zf3 := zf 3 (by omega)
    have zf4 := zf 4 (by omega)
    dsimp only at z0 z1 z2 z3 z4
    obtain ⟨y0, y1, y2, y3, y4, y5⟩ := hxz.z
    dsimp only at y0 y1 y2 y3 y4 y5
    have HZ := hide (And.intro hbz (And.intro hcz hxz))
    have HCZ : Hid (CnAt Z gc ⟨na, ns, no, ny, nf⟩) := hide ⟨z0, z1, z2, z3, z4, zf⟩
    clear zf hbz hcz hxz
    by_cases h64 : (64 : Int) ≤ (L.length : Int)
    · have hres : putP L ⟨na, ns, no, ny, nf⟩ ⟨t, i, p, s, e, nm⟩ = (L, ⟨na, ns, no, ny, nf + 1⟩) := by
        unfold putP
        simp only [hf, if_pos (show 64 ≤ L.length by omega)]
      have HRES := hide hres
      clear hres hf hth
      go_wp2
      go_end0
      refine ⟨rfl, ?_⟩
      rw [HRES.out]
      exact ⟨⟨_, HZ.out.1.grown (grown_set Z gc 4 _) (fun e => HNE.out (by injection e))⟩, HCZ.out.s4, HZ.out.2.1.set _ (.inl (.inr rfl))⟩
    · have hrg : ring L i p = ups L r i p := (ups_ring HR.out i p).symm
      have hcall := above_any HZ.out.1 HR.out HW.out (x := ⟨t, i, p, s, e, nm⟩) hxp
      unfold spV at hcall
      dsimp only at hcall
      rw [← hrg] at hcall
      clear hrg
      cases hri : ring L i p
      · have hres : putP L ⟨na, ns, no, ny, nf⟩ ⟨t, i, p, s, e, nm⟩ = (L ++ [⟨t, i, p, s, e, nm⟩], ⟨na + 1, ns, no, ny, nf⟩) := by
          unfold putP
          simp only [hf, if_neg (show ¬ 64 ≤ L.length by omega), hri]
          simp
        have HRES := hide hres
        have HF := hide hf
        rw [hri] at hcall
        clear hres hf hth hri
        go_wp2_with fail
        refine hcall.mono ?_
        rintro e1 w1 ⟨rfl, hb1⟩
        have hx1 := HZ.out.2.2.below hb1
        obtain ⟨j0, j1, j2, j3, j4, j5⟩ := hx1.z
        dsimp only at j0 j1 j2 j3 j4 j5
        obtain ⟨w2, hrun, hg2, hbag2⟩ := (HZ.out.1.below hb1).store (x := ⟨t, i, p, s, e, nm⟩) hxi HF.out (by simp [maxLen]; omega)
        have hn2 := (HCZ.out.below hb1).grown hg2 (fun e => HNE.out (by injection e with e; exact e.symm))
        obtain ⟨v0, v1, v2, v3, v4, vf⟩ := hn2
        have vf0 := vf 0 (by omega)
        dsimp only at v0
        have HN2 : Hid (CnAt w2 gc ⟨na, ns, no, ny, nf⟩) := hide ⟨v0, v1, v2, v3, v4, vf⟩
        have HBG := hide hbag2
        have HCG : Hid (Chg w w2 (fun k => k = b ∨ k = gc)) := hide ((HZ.out.2.1.belowed hb1).trans (Chg.of_grown hg2 (fun k => k = b ∨ k = gc) (fun k e => by injection e with e; exact .inl (.inl e.symm))) (fun k hk => .inl hk))
        unfold spV at hrun
        dsimp only at hrun
        clear vf hb1 hx1 hg2 hbag2
        go_wp2
        go_end0
        refine ⟨rfl, ?_⟩
        rw [HRES.out]
        exact ⟨⟨_, HBG.out.grown (grown_set w2 gc 0 _) (fun e => HNE.out (by injection e))⟩, HN2.out.s0, HCG.out.set _ (.inl (.inr rfl))⟩
      · have hres : putP L ⟨na, ns, no, ny, nf⟩ ⟨t, i, p, s, e, nm⟩ = (L, ⟨na, ns, no, ny + 1, nf⟩) := by
          unfold putP
          simp only [hf, if_neg (show ¬ 64 ≤ L.length by omega), hri, if_true]
        have HRES := hide hres
        rw [hri] at hcall
        clear hres hf hth hri
        go_wp2_with fail
        refine hcall.mono ?_
        rintro e1 w1 ⟨rfl, hb1⟩
        have hn1 := HCZ.out.below hb1
        obtain ⟨v0, v1, v2, v3, v4, vf⟩ := hn1
        have vf3 := vf 3 (by omega)
        dsimp only at v3
        have HN1 : Hid (CnAt w1 gc ⟨na, ns, no, ny, nf⟩) := hide ⟨v0, v1, v2, v3, v4, vf⟩
        have HB1 := hide hb1
        clear vf hb1
        go_wp2
        go_end0
        refine ⟨rfl, ?_⟩
        rw [HRES.out]
        exact ⟨⟨_, (HZ.out.1.below HB1.out).grown (grown_set w1 gc 3 _) (fun e => HNE.out (by injection e))⟩, HN1.out.s3, (HZ.out.2.1.belowed HB1.out).set _ (.inl (.inr rfl))⟩
  · obtain ⟨o, hf⟩ : ∃ o, fnd L i = some o := Option.isSome_iff_exists.1 hth
    rw [hf, Option.getD_some] at hu
    subst hu
    by_cases hux : o = ⟨t, i, p, s, e, nm⟩
    · have hres : putP L ⟨na, ns, no, ny, nf⟩ ⟨t, i, p, s, e, nm⟩ = (L, ⟨na, ns + 1, no, ny, nf⟩) := by
        unfold putP
        simp only [hf, if_pos hux]
      have HRES := hide hres
      subst hux
      clear hres hf hth
      go_wp2
      go_end0
      refine ⟨rfl, ?_⟩
      rw [HRES.out]
      exact ⟨⟨_, (put_fin HX.out HNE.out _ _).1⟩, (HC.out.s1).alloc _, (put_fin HX.out HNE.out _ _).2⟩
    · have hres : putP L ⟨na, ns, no, ny, nf⟩ ⟨t, i, p, s, e, nm⟩ = (L, ⟨na, ns, no + 1, ny, nf⟩) := by
        unfold putP
        simp only [hf, if_neg hux]
      have HRES := hide hres
      have hoi := (fnd_mem hf).2
      obtain ⟨t', i', p', s', e', nm'⟩ := o
      dsimp only at *
      subst hoi
      have hbe : t' ≠ t ∨ (t' = t ∧ p' ≠ p) ∨ (t' = t ∧ p' = p ∧ s' ≠ s) ∨ (t' = t ∧ p' = p ∧ s' = s ∧ e' ≠ e) ∨ (t' = t ∧ p' = p ∧ s' = s ∧ e' = e ∧ nm'.toList ≠ nm.toList) := by
        have hb := sp_beq ⟨t', i', p', s', e', nm'⟩ ⟨t, i', p, s, e, nm⟩
        rw [decide_eq_false hux] at hb
        by_cases h1 : t' = t
        · by_cases h2 : p' = p
          · by_cases h3 : s' = s
            · by_cases h4 : e' = e
              · refine .inr (.inr (.inr (.inr ⟨h1, h2, h3, h4, fun h5 => ?_⟩)))
                simp [h1, h2, h3, h4, h5] at hb
              · exact .inr (.inr (.inr (.inl ⟨h1, h2, h3, h4⟩)))
            · exact .inr (.inr (.inl ⟨h1, h2, h3⟩))
          · exact .inr (.inl ⟨h1, h2⟩)
        · exact .inl h1
      clear hres hf hth hux
      rcases hbe with h1 | ⟨rfl, h1⟩ | ⟨rfl, rfl, h1⟩ | ⟨rfl, rfl, rfl, h1⟩ | ⟨rfl, rfl, rfl, rfl, h1⟩
      all_goals
        go_wp2
        go_end0
        refine ⟨rfl, ?_⟩
        rw [HRES.out]
        exact ⟨⟨_, (put_fin HX.out HNE.out _ _).1⟩, (HC.out.s2).alloc _, (put_fin HX.out HNE.out _ _).2⟩
end Go.Proofs.YtionbmlicmibgaaGreatDoor
namespace Go.Proofs.YtionbmlicmibgaaGreatDoor
set_option linter.unusedVariables false
set_option linter.unusedSimpArgs false
open Go.RowKit
structure FoOk (tr : Int) (L : List Sp) : Prop where
  ids : L.Pairwise fun x y => x.i ≠ y.i
  rises : NoRing L
  ok : ∀ x ∈ L, x.ok = true ∧ x.t = tr
  len : L.length ≤ 64
structure FoIs (w : World) (g b : Nat) (tr : Int) (L : List Sp) : Prop where
  c0 : w.cell? ⟨g, 0, none⟩ = some (.map (some b))
  c1 : w.cell? ⟨g, 1, none⟩ = some (.int .i64 tr)
  ne : g ≠ b
  bag : ∃ D, BagIs w b L D
  ok : FoOk tr L
theorem FoIs.below {w w' : World} {g b : Nat} {tr : Int} {L : List Sp} (h : FoIs w g b tr L) (hb : Below w.heap.size w w') : FoIs w' g b tr L :=
  ⟨(hb.cell (lt_of_cell h.c0)).trans h.c0, (hb.cell (lt_of_cell h.c1)).trans h.c1, h.ne, by obtain ⟨D, hD⟩ := h.bag; exact ⟨D, hD.below hb⟩, h.ok⟩
theorem FoIs.drewN {w : World} {g b : Nat} {tr : Int} {L : List Sp} (h : FoIs w g b tr L) (q : Nat) : FoIs (w.drewN q) g b tr L :=
  ⟨h.c0, h.c1, h.ne, by obtain ⟨D, hD⟩ := h.bag; exact ⟨D, hD.drewN q⟩, h.ok⟩
theorem bdrew {B : Nat} (w : World) (q : Nat) : Below B w (w.drewN q) := ⟨rfl, rfl, rfl, Nat.le_refl _, fun _ _ => rfl⟩
theorem bset {B : Nat} {w V : World} (h : Below B w V) {g i : Nat} {x : Value} (hB : B ≤ g) : Below B w (V.setCell ⟨g, i, none⟩ x) :=
  ⟨h.os, h.tape, h.output, by have := h.size; simpa [World.setCell] using this, fun k hk => (heap_setCell_other V ⟨g, i, none⟩ k _ (by simp; omega)).trans (h.block k hk)⟩
theorem run_some_map (b : Nat) (w : World) : (binOp .neq 230 (.map (some b)) (.map none)).run Tryz.prog w = .ok (.bool true) w := by
  kernel_rfl
set_option maxRecDepth 200000 in
set_option maxHeartbeats 1100000 in
theorem made_any {w : World} {g b : Nat} {tr : Int} {L : List Sp} (h : FoIs w g b tr L) : Calls Tryz.prog 172 #[.pointer (some ⟨g, 0, none⟩)] w fun e w' => e = .returned (.bool true) ∧ ∃ q, w' = w.drewN q := by
  have c0 := h.c0
  clear h
  have hneq := run_some_map b
  go_enter Tryz.func172, Tryz.ntmps172
  go_wp2
  go_ret
  exact ⟨rfl, 0, rfl⟩
end Go.Proofs.YtionbmlicmibgaaGreatDoor
namespace Go.Proofs.YtionbmlicmibgaaGreatDoor
set_option linter.unusedVariables false
set_option linter.unusedSimpArgs false
open Go.RowKit
theorem putP_sum (L : List Sp) (c : Cn) (x : Sp) : (putP L c x).2.sum = c.sum + 1 := by
  unfold putP Cn.sum
  cases fnd L x.i with
  | none => simp only; repeat' split
            all_goals simp only <;> omega
  | some o => simp only; split
              all_goals simp only <;> omega
theorem putP_same {L : List Sp} {c : Cn} {x : Sp} : (putP L c x).1 = L ∨ (fnd L x.i = none ∧ ¬ 64 ≤ L.length ∧ ring L x.i x.p = false ∧ (putP L c x).1 = L ++ [x]) := by
  unfold putP
  cases hf : fnd L x.i with
  | some o => simp only; split <;> exact .inl rfl
  | none =>
    simp only
    by_cases h1 : 64 ≤ L.length
    · rw [if_pos h1]; exact .inl rfl
    · rw [if_neg h1]
      by_cases h2 : ring L x.i x.p = true
      · rw [if_pos h2]; exact .inl rfl
      · rw [if_neg h2]
        exact .inr ⟨trivial, h1, by simpa using h2, rfl⟩
theorem putP_ok {tr : Int} {L : List Sp} {c : Cn} {x : Sp} (h : FoOk tr L) (hx : x.ok = true) (hp : x.p ≠ x.i) (ht : x.t = tr) : FoOk tr (putP L c x).1 := by
  rcases putP_same (L := L) (c := c) (x := x) with e | ⟨h1, h2, h3, e⟩
  · rw [e]; exact h
  · rw [e]
    refine ⟨?_, noRing_add h.ids h.rises h1 h3 hp, fun y hy => ?_, by rw [List.length_append, List.length_singleton]; omega⟩
    · rw [List.pairwise_append]
      refine ⟨h.ids, List.pairwise_singleton _ _, fun a ha y hy => ?_⟩
      simp only [List.mem_cons, List.not_mem_nil, or_false] at hy
      subst hy
      exact fnd_none.1 h1 a ha
    · rcases List.mem_append.1 hy with hy | hy
      · exact h.ok y hy
      · simp only [List.mem_cons, List.not_mem_nil, or_false] at hy
        subst hy
        exact ⟨hx, ht⟩
noncomputable def putsP : List Sp → Cn → List Sp → List Sp × Cn
  | L, c, [] => (L, c)
  | L, c, x :: r => putsP (putP L c x).1 (putP L c x).2 r
theorem putsP_snoc : ∀ (l : List Sp) (L : List Sp) (c : Cn) (x : Sp), putsP L c (l ++ [x]) = putP (putsP L c l).1 (putsP L c l).2 x
  | [], L, c, x => rfl
  | y :: r, L, c, x => by
    rw [List.cons_append]
    unfold putsP
    exact putsP_snoc r _ _ x
theorem putsP_sum : ∀ (l : List Sp) (L : List Sp) (c : Cn), (putsP L c l).2.sum = c.sum + l.length
  | [], L, c => rfl
  | y :: r, L, c => by
    unfold putsP
    rw [putsP_sum r, putP_sum, List.length_cons]
    omega
theorem putsP_ok {tr : Int} : ∀ (l : List Sp) {L : List Sp} {c : Cn}, FoOk tr L → (∀ x ∈ l, x.ok = true ∧ x.p ≠ x.i ∧ x.t = tr) → FoOk tr (putsP L c l).1
  | [], L, c, h, _ => h
  | y :: r, L, c, h, hl => by
    have hy := hl y (List.mem_cons_self ..)
    exact putsP_ok r (putP_ok h hy.1 hy.2.1 hy.2.2) fun x hx => hl x (List.mem_cons_of_mem _ hx)
end Go.Proofs.YtionbmlicmibgaaGreatDoor
