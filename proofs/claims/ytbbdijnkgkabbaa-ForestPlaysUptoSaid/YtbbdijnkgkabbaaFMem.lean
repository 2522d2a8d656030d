/- A bag of spans by their IDs: plainly (as they came, none of an ID twice), and in memory. -/
import Derived.Test.YtbbdijnkgkabbaaSpBase
import Derived.Maps.OwnSet
import Derived.Maps.RangeWalk
import Derived.Maps.Ext
namespace Go.Proofs.Ytbbdijnkgkabbaa
set_option linter.unusedVariables false
set_option linter.unusedSimpArgs false
open Go.RowKit

/-- The span of an ID. -/
def fnd (L : List Sp) (k : Int) : Option Sp := L.find? fun x => x.i == k
theorem fnd_mem {L : List Sp} {k : Int} {x : Sp} (h : fnd L k = some x) : x ∈ L ∧ x.i = k := by
  have h1 := List.find?_some h
  exact ⟨List.mem_of_find?_eq_some h, by simpa using h1⟩
theorem fnd_none {L : List Sp} {k : Int} : fnd L k = none ↔ ∀ x ∈ L, x.i ≠ k := by
  unfold fnd
  rw [List.find?_eq_none]
  simp
theorem fnd_add (L : List Sp) (x : Sp) (k : Int) : fnd (L ++ [x]) k = (fnd L k).or (if x.i = k then some x else none) := by
  unfold fnd
  rw [List.find?_append]
  congr 1
  by_cases h : x.i = k <;> simp [h]
theorem fnd_of {L : List Sp} (h : L.Pairwise fun x y => x.i ≠ y.i) {x : Sp} (hx : x ∈ L) : fnd L x.i = some x := by
  induction L with
  | nil => simp at hx
  | cons y r ih =>
    rw [List.pairwise_cons] at h
    unfold fnd
    rw [List.find?_cons]
    rcases List.mem_cons.1 hx with rfl | hx
    · simp
    · have := h.1 x hx
      simp only [beq_eq_false_iff_ne.2 this]
      exact ih h.2 hx

/-- How an element reads: as itself. -/
def heldA : Value → Option (DataW Value × List MemPlace)
  | .agg a => some (.held (.agg a), [])
  | _ => none
theorem heldA_inv {v u : Value} {ps : List MemPlace} (h : heldA v = some (.held u, ps)) : v = u := by
  cases v <;> simp [heldA] at h
  exact h.1

theorem intK : Maps.Keyed Try.prog 3 := Maps.int_keyed Try.underlying3
theorem keyI {k : Int} (hk : (Lit.int .i64 k).wf = true) : keyOf Try.prog 3 (.int .i64 k) = some (.int .i64 k) := Maps.keyOf_int_mk Try.underlying3 hk
theorem isKeyI (k : Int) : WideAt.IsKeyLit (.int .i64 k) := trivial
/-- The zero span. -/
def sp0 : Sp := ⟨0, 0, 0, 0, 0, ByteArray.empty⟩
theorem zeroSp (w : World) : (zeroValue 33).run Try.prog w = .ok (spV sp0) w := by kernel_rfl

/-- The bag of the map's block b has the spans L. -/
structure BagIs (w : World) (b : Nat) (L : List Sp) (D : DataW Value) : Prop where
  map : w.ownsMap Try.prog 3 heldA b L.length D
  size : Maps.size D = L.length
  keys : ∀ k, Maps.has D (.int .i64 k) = (fnd L k).isSome
  vals : ∀ k x, fnd L k = some x → ∀ z, D.atKey (.int .i64 k) z = .held (spV x)
  ids : L.Pairwise fun x y => x.i ≠ y.i

theorem bmap_tight {H : Type} {P : Program} {k : TypeId} {R : Value → Option (DataW H × List MemPlace)} {w : World} {b n : Nat} {D : DataW H} (h : w.ownsMap P k R b n D) : w.ownsMap P k R b (Maps.size D) D := by
  obtain ⟨es, clock, hb, F, hs, rfl⟩ := h
  exact ⟨es, clock, hb, F, by simp [Maps.size, length_sorted], rfl⟩

theorem BagIs.below {w w' : World} {b : Nat} {L : List Sp} {D : DataW Value} (h : BagIs w b L D) (hb : Below w.heap.size w w') : BagIs w' b L D := by
  have hlt := h.map.lt
  obtain ⟨es, clock, h1, rest⟩ := h.map
  exact ⟨⟨es, clock, (hb.block b hlt).trans h1, rest⟩, h.size, h.keys, h.vals, h.ids⟩
theorem BagIs.drewN {w : World} {b : Nat} {L : List Sp} {D : DataW Value} (h : BagIs w b L D) (q : Nat) : BagIs (w.drewN q) b L D := ⟨h.map, h.size, h.keys, h.vals, h.ids⟩
theorem BagIs.grown {w w' : World} {b : Nat} {L : List Sp} {D : DataW Value} {row : Option Nat} (h : BagIs w b L D) (hg : w.grownBy w' row) (hne : row ≠ some b) : BagIs w' b L D :=
  ⟨h.map.kept hg fun e => hne e.symm, h.size, h.keys, h.vals, h.ids⟩

/-- 's, ok := b[id]' and 'b[id]'. -/
theorem BagIs.look {w : World} {b : Nat} {L : List Sp} {D : DataW Value} (h : BagIs w b L D) {k : Int} (hk : (Lit.int .i64 k).wf = true) (q : Nat) :
    (Instr.lookup 47 (.map (some b)) (.int .i64 k) true).run Try.prog (w.drewN q) = .ok (.tuple #[spV ((fnd L k).getD sp0), .bool (fnd L k).isSome]) (w.drewN q) ∧ (Instr.lookup 47 (.map (some b)) (.int .i64 k) false).run Try.prog (w.drewN q) = .ok (spV ((fnd L k).getD sp0)) (w.drewN q) := by
  have hmap : (w.drewN q).ownsMap Try.prog 3 heldA b L.length D := h.map
  obtain ⟨v, ps, hrun, hv⟩ := hmap.look_ok intK Try.underlying47 (zeroSp (w.drewN q)) (zd := .held (spV sp0)) (zp := []) rfl (keyI hk)
  obtain ⟨v2, ps2, hrun2, hv2⟩ := hmap.lookup intK Try.underlying47 (zeroSp (w.drewN q)) (zd := .held (spV sp0)) (zp := []) rfl (keyI hk)
  cases hf : fnd L k with
  | none =>
    have hh : Maps.has D (.int .i64 k) = false := by rw [h.keys, hf]; rfl
    rw [Maps.atKey_of_not_has hh] at hv hv2
    obtain rfl := heldA_inv hv
    obtain rfl := heldA_inv hv2
    rw [hh] at hrun
    exact ⟨hrun, hrun2⟩
  | some x =>
    have hh : Maps.has D (.int .i64 k) = true := by rw [h.keys, hf]; rfl
    rw [h.vals k x hf] at hv hv2
    obtain rfl := heldA_inv hv
    obtain rfl := heldA_inv hv2
    rw [hh] at hrun
    exact ⟨hrun, hrun2⟩

set_option maxRecDepth 20000 in
/-- 'b[s.ID] = s', none of that ID there. -/
theorem BagIs.store {w : World} {b : Nat} {L : List Sp} {D : DataW Value} (h : BagIs w b L D) {x : Sp} (hk : (Lit.int .i64 x.i).wf = true) (hn : fnd L x.i = none) (hL : L.length < maxLen) :
    ∃ w', (Instr.mapUpdate 47 (.map (some b)) (.int .i64 x.i) (spV x)).run Try.prog w = .ok () w' ∧ w.grownBy w' (some b) ∧ BagIs w' b (L ++ [x]) (D.put (.int .i64 x.i) (.held (spV x))) := by
  obtain ⟨w', hrun, hm', hg⟩ := h.map.update intK Try.underlying47 hL (keyI hk) (d := .held (spV x)) (ps := []) (val := spV x) rfl
  have htidy := h.map.tidy intK
  have hsz : Maps.size (D.put (.int .i64 x.i) (.held (spV x))) = (L ++ [x]).length := by
    rw [Maps.size_put htidy, h.keys, hn, h.size]
    simp
  refine ⟨w', hrun, hg, ⟨by rw [← hsz]; exact bmap_tight hm', hsz, fun k => ?_, fun k y hy => ?_, ?_⟩⟩
  · rw [fnd_add]
    by_cases e : x.i = k
    · subst e
      rw [if_pos rfl, Maps.has_put_same h.map.isMap (isKeyI _)]
      cases fnd L x.i <;> rfl
    · rw [if_neg e, Maps.has_put_other (fun h => e (by injection h with _ h; exact h.symm)), h.keys]
      cases fnd L k <;> rfl
  · rw [fnd_add] at hy
    by_cases e : x.i = k
    · subst e
      rw [hn, if_pos rfl] at hy
      simp at hy
      subst hy
      intro z
      rw [Maps.atKey_put_same h.map.isMap (isKeyI _)]
    · rw [if_neg e] at hy
      intro z
      rw [Maps.atKey_put_other (fun h => e (by injection h with _ h; exact h.symm))]
      refine h.vals k y ?_ z
      cases hf : fnd L k with
      | none => rw [hf] at hy; simp at hy
      | some u => rw [hf] at hy; simpa using hy
  · rw [List.pairwise_append]
    refine ⟨h.ids, List.pairwise_singleton _ _, fun a ha y hy => ?_⟩
    simp only [List.mem_cons, List.not_mem_nil, or_false] at hy
    subst hy
    exact fnd_none.1 hn a ha

/-- A bag just made. -/
theorem bag_new (w : World) : BagIs (w.alloc (.map #[] 0)) w.heap.size [] (.map []) :=
  ⟨World.ownsMap_made w _ _ _, rfl, fun k => rfl, fun k x h => by simp [fnd] at h, List.Pairwise.nil⟩
end Go.Proofs.Ytbbdijnkgkabbaa
