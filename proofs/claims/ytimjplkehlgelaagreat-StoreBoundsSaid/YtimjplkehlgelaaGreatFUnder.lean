/- What stands beneath whom: a map of slices of spans, each in a block of its own. Branches in memory. -/
import Derived.Test.YtimjplkehlgelaaGreatFTree
import Derived.Test.YtimjplkehlgelaaGreatSp1
import Derived.Maps.OwnSet
namespace Go.Proofs.YtimjplkehlgelaaGreat
set_option linter.unusedVariables false
set_option linter.unusedSimpArgs false
open Go.RowKit

/-- One more span behind others, and where it lies then. -/
theorem run_push2 {B : Nat} {w : World} {v : Value} {l : List Sp} (h : OwnS B w v l) (x : Sp) (hB : B ≤ w.heap.size) (hs : l.length ≤ 1000000) :
    ∃ v' w', (Builtin.append_ #[31, 31] 31 #[v, .slice (some ⟨w.heap.size, 0, none⟩) 1 1]).run Tryz.prog (w.alloc (.cells #[.int .i64 x.t, .int .i64 x.i, .int .i64 x.p, .int .i64 x.s, .int .i64 x.e, .string x.n] 38)) = .ok v' w' ∧ OwnS B w' v' (l ++ [x]) ∧ Below B w w' ∧ w.grownBy w' v.ownBlock ∧ (v'.ownBlock = v.ownBlock ∨ v'.ownBlock = some (w.heap.size + 1)) := by
  obtain ⟨i0, hi0, hz0, hz1, hz2⟩ := info_parts Tryz.infoSp
  have ho' := World.ownsRow.alloc h (.cells #[.int .i64 x.t, .int .i64 x.i, .int .i64 x.p, .int .i64 x.s, .int .i64 x.e, .string x.n] 38)
  obtain ⟨v', w', hr, h1, h2, _, h4⟩ := run_append_own_at (P := Tryz.prog) (w.alloc (.cells #[.int .i64 x.t, .int .i64 x.i, .int .i64 x.p, .int .i64 x.s, .int .i64 x.e, .string x.n] 38)) B 31 31 38 i0 _ 6 56 Tryz.underlying31 hi0 hz0 hz1 hz2 rfl (by decide) v l.length (l.flatMap spC) ho' ⟨w.heap.size, 0, none⟩ 1 1 (spC x) rfl
    (fun j u hj => by
      rw [add_lit0, Nat.zero_add, cell_of_row _ w.heap.size j _ 38 (0, 0) (heap_alloc_new w _)]
      simpa [spC] using hj)
    (spC_one x) (by simp only [maxLen]; omega) (by omega) (by simp; omega)
  have hb0 : Below B w (w.alloc (.cells #[.int .i64 x.t, .int .i64 x.i, .int .i64 x.p, .int .i64 x.s, .int .i64 x.e, .string x.n] 38)) := (Below.refl _ _).alloc hB _
  refine ⟨v', w', hr, ?_, hb0.grown h2 (by simp; omega) fun k hk => (World.ownsRow.lt h k hk).1, ?_, ?_⟩
  · have : (l ++ [x]).flatMap spC = l.flatMap spC ++ spC x := by simp
    unfold OwnS
    rw [this, List.length_append]
    exact h1
  · refine ⟨h2.os, h2.tape, h2.output, ?_, fun k hk hne => ?_⟩
    · have := h2.size
      simp at this
      omega
    · rw [h2.block k (by simp; omega) hne]
      exact heap_alloc_old _ _ hk
  · simpa using h4

/-- How a slice reads: as itself. -/
def heldS : Value → Option (DataW Value × List MemPlace)
  | .slice p n c => some (.held (.slice p n c), [])
  | _ => none
theorem heldS_inv {v u : Value} {ps : List MemPlace} (h : heldS v = some (.held u, ps)) : v = u := by
  cases v <;> simp [heldS] at h
  exact h.1
theorem heldS_row {w : World} {B n s : Nat} {e : TypeId} {v : Value} {xs : List Value} (h : w.ownsRow B e s v n xs) : heldS v = some (.held v, []) := by
  rcases h.2 with ⟨rfl, _⟩ | ⟨g, cap, cur, rfl, _⟩
  · rfl
  · rfl
theorem zeroSps (w : World) : (zeroValue 31).run Tryz.prog w = .ok (.slice none 0 0) w := by kernel_rfl

/-- Beneath k stand U k: a map of slices, each in a block of its own from B on. -/
structure UndIs (w : World) (B b : Nat) (U : Int → List Sp) (V : Int → Value) (D : DataW Value) : Prop where
  map : w.ownsMap Tryz.prog 3 heldS b (Maps.size D) D
  vals : ∀ k, Maps.has D (.int .i64 k) = true → (∀ z, D.atKey (.int .i64 k) z = .held (V k)) ∧ OwnS B w (V k) (U k)
  none_ : ∀ k, Maps.has D (.int .i64 k) = false → U k = []
  blk : ∀ k i, Maps.has D (.int .i64 k) = true → (V k).ownBlock = some i → i ≠ b
  apart : ∀ k k' i, Maps.has D (.int .i64 k) = true → Maps.has D (.int .i64 k') = true → k ≠ k' → (V k).ownBlock = some i → (V k').ownBlock ≠ some i
/-- The block i is none of the map's. -/
def UndOff (b : Nat) (V : Int → Value) (D : DataW Value) (i : Nat) : Prop := i ≠ b ∧ ∀ k, Maps.has D (.int .i64 k) = true → (V k).ownBlock ≠ some i

theorem UndIs.drewN {w : World} {B b : Nat} {U : Int → List Sp} {V : Int → Value} {D : DataW Value} (h : UndIs w B b U V D) (q : Nat) : UndIs (w.drewN q) B b U V D := ⟨h.map, h.vals, h.none_, h.blk, h.apart⟩
theorem UndIs.grown {w w' : World} {B b : Nat} {U : Int → List Sp} {V : Int → Value} {D : DataW Value} {row : Option Nat} (h : UndIs w B b U V D) (hg : w.grownBy w' row) (ho : ∀ i, row = some i → UndOff b V D i) : UndIs w' B b U V D :=
  ⟨h.map.kept hg fun e => (ho b e.symm).1 rfl, fun k hk => ⟨(h.vals k hk).1, (h.vals k hk).2.grown hg (by
    rcases hv : (V k).ownBlock with _ | i
    · exact .inl rfl
    · exact .inr fun e => (ho i e.symm).2 k hk hv)⟩, h.none_, h.blk, h.apart⟩
theorem UndIs.lt {w : World} {B b : Nat} {U : Int → List Sp} {V : Int → Value} {D : DataW Value} (h : UndIs w B b U V D) : b < w.heap.size := h.map.lt
theorem UndIs.off_new {w : World} {B b : Nat} {U : Int → List Sp} {V : Int → Value} {D : DataW Value} (h : UndIs w B b U V D) {i : Nat} (hi : w.heap.size ≤ i) : UndOff b V D i :=
  ⟨by have := h.lt; omega, fun k hk e => by have := ((h.vals k hk).2.lt i e).2; omega⟩
theorem und_new (w : World) {B : Nat} (hB : B ≤ w.heap.size) (V : Int → Value) : UndIs (w.alloc (.map #[] 0)) B w.heap.size (fun _ => []) V (.map []) :=
  ⟨World.ownsMap_made w _ _ _, fun k h => (by cases h), fun k _ => rfl, fun k i h => (by cases h), fun k k' i h => (by cases h)⟩

theorem UndIs.look2 {w : World} {B b : Nat} {U : Int → List Sp} {V : Int → Value} {D : DataW Value} (h : UndIs w B b U V D) {k : Int} (hk : (Lit.int .i64 k).wf = true) :
    ∃ v, (∀ W : World, W.ownsMap Tryz.prog 3 heldS b (Maps.size D) D → (Instr.lookup 140 (.map (some b)) (.int .i64 k) false).run Tryz.prog W = .ok v W) ∧ OwnS B w v (U k) ∧ (Maps.has D (.int .i64 k) = true ∧ v = V k ∨ Maps.has D (.int .i64 k) = false ∧ v = .slice none 0 0) := by
  cases hh : Maps.has D (.int .i64 k) with
  | false =>
    refine ⟨.slice none 0 0, fun W hmap => ?_, by rw [h.none_ k hh]; exact OwnS.nil _ _, .inr ⟨rfl, rfl⟩⟩
    obtain ⟨v2, ps2, hrun2, hv2⟩ := hmap.lookup intK Tryz.underlying140 (zeroSps W) (zd := .held (.slice none 0 0)) (zp := []) rfl (keyI hk)
    rw [Maps.atKey_of_not_has hh] at hv2
    obtain rfl := heldS_inv hv2
    exact hrun2
  | true =>
    refine ⟨V k, fun W hmap => ?_, (h.vals k hh).2, .inl ⟨rfl, rfl⟩⟩
    obtain ⟨v2, ps2, hrun2, hv2⟩ := hmap.lookup intK Tryz.underlying140 (zeroSps W) (zd := .held (.slice none 0 0)) (zp := []) rfl (keyI hk)
    rw [(h.vals k hh).1] at hv2
    obtain rfl := heldS_inv hv2
    exact hrun2

/-- 'under[k]'. -/
theorem UndIs.look {w : World} {B b : Nat} {U : Int → List Sp} {V : Int → Value} {D : DataW Value} (h : UndIs w B b U V D) {k : Int} (hk : (Lit.int .i64 k).wf = true) :
    ∃ v, (∀ q, (Instr.lookup 140 (.map (some b)) (.int .i64 k) false).run Tryz.prog (w.drewN q) = .ok v (w.drewN q)) ∧ OwnS B w v (U k) ∧ (Maps.has D (.int .i64 k) = true ∧ v = V k ∨ Maps.has D (.int .i64 k) = false ∧ v = .slice none 0 0) := by
  cases hh : Maps.has D (.int .i64 k) with
  | false =>
    refine ⟨.slice none 0 0, fun q => ?_, by rw [h.none_ k hh]; exact OwnS.nil _ _, .inr ⟨rfl, rfl⟩⟩
    have hmap : (w.drewN q).ownsMap Tryz.prog 3 heldS b (Maps.size D) D := h.map
    obtain ⟨v2, ps2, hrun2, hv2⟩ := hmap.lookup intK Tryz.underlying140 (zeroSps (w.drewN q)) (zd := .held (.slice none 0 0)) (zp := []) rfl (keyI hk)
    rw [Maps.atKey_of_not_has hh] at hv2
    obtain rfl := heldS_inv hv2
    exact hrun2
  | true =>
    refine ⟨V k, fun q => ?_, (h.vals k hh).2, .inl ⟨rfl, rfl⟩⟩
    have hmap : (w.drewN q).ownsMap Tryz.prog 3 heldS b (Maps.size D) D := h.map
    obtain ⟨v2, ps2, hrun2, hv2⟩ := hmap.lookup intK Tryz.underlying140 (zeroSps (w.drewN q)) (zd := .held (.slice none 0 0)) (zp := []) rfl (keyI hk)
    rw [(h.vals k hh).1] at hv2
    obtain rfl := heldS_inv hv2
    exact hrun2

set_option maxRecDepth 20000 in
/-- 'under[k] = append(under[k], x)': what the append left is stored. -/
theorem UndIs.push {w w' : World} {B b : Nat} {U : Int → List Sp} {V : Int → Value} {D : DataW Value} (h : UndIs w B b U V D) {k : Int} (hk : (Lit.int .i64 k).wf = true) {x : Sp} {v v' : Value}
    (hv : Maps.has D (.int .i64 k) = true ∧ v = V k ∨ Maps.has D (.int .i64 k) = false ∧ v = .slice none 0 0) (ho : OwnS B w' v' (U k ++ [x])) (hg : w.grownBy w' v.ownBlock) (hvv : v'.ownBlock = v.ownBlock ∨ ∃ i, w.heap.size ≤ i ∧ v'.ownBlock = some i) (hN : Maps.size D ≤ 1000000) :
    ∃ w'', (Instr.mapUpdate 140 (.map (some b)) (.int .i64 k) v').run Tryz.prog w' = .ok () w'' ∧ w'.grownBy w'' (some b) ∧
      UndIs w'' B b (fun j => if j = k then U k ++ [x] else U j) (fun j => if j = k then v' else V j) (D.put (.int .i64 k) (.held v')) ∧ Maps.size (D.put (.int .i64 k) (.held v')) ≤ Maps.size D + 1 ∧
      (∀ i, UndOff b V D i → i < w.heap.size → UndOff b (fun j => if j = k then v' else V j) (D.put (.int .i64 k) (.held v')) i) := by
  have hoff : ∀ i, v.ownBlock = some i → i ≠ b ∧ ∀ j, j ≠ k → Maps.has D (.int .i64 j) = true → (V j).ownBlock ≠ some i := fun i hi => by
    rcases hv with ⟨hh, rfl⟩ | ⟨hh, rfl⟩
    · exact ⟨h.blk k i hh hi, fun j hj hhj => h.apart k j i hh hhj (fun e => hj e.symm) hi⟩
    · cases hi
  have hmap' : w'.ownsMap Tryz.prog 3 heldS b (Maps.size D) D := h.map.kept hg fun e => (hoff b e.symm).1 rfl
  obtain ⟨w'', hrun, hm', hg'⟩ := hmap'.update intK Tryz.underlying140 (by simp only [maxLen]; omega) (keyI hk) (d := .held v') (ps := []) (val := v') (heldS_row ho)
  have htidy := h.map.tidy intK
  have hlt' : b < w.heap.size := h.lt
  have hvb : ∀ i, v'.ownBlock = some i → i ≠ b ∧ ∀ j, j ≠ k → Maps.has D (.int .i64 j) = true → (V j).ownBlock ≠ some i := fun i hi => by
    rcases hvv with e | ⟨i', hi', e⟩
    · rw [e] at hi; exact hoff i hi
    · rw [e] at hi
      injection hi with hi
      subst hi
      have := h.off_new hi'
      exact ⟨this.1, fun j _ => this.2 j⟩
  have hhas : ∀ j, Maps.has (D.put (.int .i64 k) (.held v')) (.int .i64 j) = true → j = k ∨ (j ≠ k ∧ Maps.has D (.int .i64 j) = true) := fun j hj => by
    by_cases e : j = k
    · exact .inl e
    · rw [Maps.has_put_other (fun h => e (by injection h))] at hj
      exact .inr ⟨e, hj⟩
  refine ⟨w'', hrun, hg', ⟨bmap_tight hm', fun j hj => ?_, fun j hj => ?_, fun j i hj hi => ?_, fun j j' i hj hj' hne hi => ?_⟩, ?_, fun i hi hilt => ⟨hi.1, fun j hj => ?_⟩⟩
  · rcases hhas j hj with rfl | ⟨e, hj⟩
    · refine ⟨fun z => ?_, ?_⟩
      · rw [Maps.atKey_put_same h.map.isMap (isKeyI _), if_pos rfl]
      · simp only [if_true]
        exact ho.grown hg' (by
          rcases hvo : v'.ownBlock with _ | i
          · exact .inl rfl
          · exact .inr fun e => (hvb i hvo).1 (by injection e))
    · refine ⟨fun z => ?_, ?_⟩
      · rw [Maps.atKey_put_other (fun h => e (by injection h)), if_neg e, (h.vals j hj).1]
      · simp only [if_neg e]
        refine ((h.vals j hj).2.grown hg ?_).grown hg' ?_
        · rcases hvo : v.ownBlock with _ | i
          · rcases hvj : (V j).ownBlock with _ | i'
            · exact .inl rfl
            · exact .inr (by simp)
          · rcases hvj : (V j).ownBlock with _ | i'
            · exact .inl rfl
            · refine .inr fun e2 => ?_
              injection e2 with e2
              subst e2
              exact (hoff _ hvo).2 j e hj hvj
        · rcases hvj : (V j).ownBlock with _ | i'
          · exact .inl rfl
          · exact .inr fun e2 => h.blk j i' hj hvj (by injection e2)
  · have e : j ≠ k := by
      rintro rfl
      rw [Maps.has_put_same h.map.isMap (isKeyI _)] at hj
      cases hj
    rw [Maps.has_put_other (fun h => e (by injection h))] at hj
    simp only [if_neg e]
    exact h.none_ j hj
  · rcases hhas j hj with rfl | ⟨e, hj⟩
    · simp only [if_true] at hi
      exact (hvb i hi).1
    · simp only [if_neg e] at hi
      exact h.blk j i hj hi
  · rcases hhas j hj with rfl | ⟨e, hj1⟩
    · rcases hhas j' hj' with e' | ⟨e', hj'⟩
      · exact absurd e'.symm hne
      · simp only [if_true] at hi
        simp only [if_neg e']
        exact (hvb i hi).2 j' e' hj'
    · simp only [if_neg e] at hi
      rcases hhas j' hj' with e2 | ⟨e', hj2⟩
      · simp only [if_pos e2]
        intro h2
        exact (hvb i h2).2 j e hj1 hi
      · simp only [if_neg e']
        exact h.apart j j' i hj1 hj2 hne hi
  · rw [Maps.size_put htidy]
    split <;> omega
  · rcases hhas j hj with rfl | ⟨e, hj⟩
    · simp only [if_true]
      rcases hvv with e | ⟨i', hi', e⟩
      · rw [e]
        rcases hv with ⟨hh, rfl⟩ | ⟨hh, rfl⟩
        · exact hi.2 j hh
        · intro e2; cases e2
      · rw [e]
        intro e2
        injection e2 with e2
        omega
    · simp only [if_neg e]
      exact hi.2 j hj
end Go.Proofs.YtimjplkehlgelaaGreat
