/- Sessions in memory: one by value, a map of them by their numbers, a table. -/
import Derived.Test.YtfbndbmhnpleoaaTPure
import Derived.Test.YtfbndbmhnpleoaaChg
import Derived.Maps.OwnSet
import Derived.Maps.RangeWalk
import Derived.Maps.Ext
namespace Go.Proofs.Ytfbndbmhnpleoaa
set_option linter.unusedVariables false
set_option linter.unusedSimpArgs false
open Go.RowKit

/-- A session's cells, and a reply's. -/
def rpC (r : Rp) : List Value := [.int .i64 r.er, .int .i64 r.rs, .int .i64 r.gn, .int .i64 r.ad, .int .i64 r.sa, .int .i64 r.ot, .int .i64 r.cy, .int .i64 r.fu]
def stC (x : St) : List Value := [.int .i64 x.s, .int .i64 x.q, .int .i64 x.a, .int .i64 x.r.er, .int .i64 x.r.rs, .int .i64 x.r.gn, .int .i64 x.r.ad, .int .i64 x.r.sa, .int .i64 x.r.ot, .int .i64 x.r.cy, .int .i64 x.r.fu]
def rpV (r : Rp) : Value := .agg #[.int .i64 r.er, .int .i64 r.rs, .int .i64 r.gn, .int .i64 r.ad, .int .i64 r.sa, .int .i64 r.ot, .int .i64 r.cy, .int .i64 r.fu]
def stV (x : St) : Value := .agg #[.int .i64 x.s, .int .i64 x.q, .int .i64 x.a, .int .i64 x.r.er, .int .i64 x.r.rs, .int .i64 x.r.gn, .int .i64 x.r.ad, .int .i64 x.r.sa, .int .i64 x.r.ot, .int .i64 x.r.cy, .int .i64 x.r.fu]
theorem stV_eq (x : St) : stV x = .agg (stC x).toArray := rfl
theorem rpV_eq (r : Rp) : rpV r = .agg (rpC r).toArray := rfl
theorem stC_length (x : St) : (stC x).length = 11 := rfl
theorem stC_one (x : St) : ∀ v ∈ stC x, v.oneCell' = true := by
  intro v hv
  simp only [stC, List.mem_cons, List.not_mem_nil, or_false] at hv
  rcases hv with rfl | rfl | rfl | rfl | rfl | rfl | rfl | rfl | rfl | rfl | rfl <;> rfl
theorem stC_inj {x y : St} (h : stC x = stC y) : x = y := by
  obtain ⟨s, q, a, ⟨e, f, g, h1, h2, h3, h4, h5⟩⟩ := x
  obtain ⟨s', q', a', ⟨e', f', g', h1', h2', h3', h4', h5'⟩⟩ := y
  simp only [stC, List.cons.injEq, Value.int.injEq, true_and, and_true] at h
  obtain ⟨rfl, rfl, rfl, rfl, rfl, rfl, rfl, rfl, rfl, rfl, rfl⟩ := h
  rfl

/-- How an element reads: as itself. -/
def heldA : Value → Option (DataW Value × List MemPlace)
  | .agg a => some (.held (.agg a), [])
  | _ => none
theorem heldA_inv {v u : Value} {ps : List MemPlace} (h : heldA v = some (.held u, ps)) : v = u := by
  cases v <;> simp [heldA] at h
  exact h.1
theorem heldA_agg {v : Value} {y : DataW Value × List MemPlace} (h : heldA v = some y) : (∃ c, v = .agg c) ∧ y.1 = .held v := by
  cases v <;> simp [heldA] at h
  subst h
  exact ⟨⟨_, rfl⟩, rfl⟩
theorem intK : Maps.Keyed Try.prog 3 := Maps.int_keyed Try.underlying3
theorem keyI {k : Int} (hk : (Lit.int .i64 k).wf = true) : keyOf Try.prog 3 (.int .i64 k) = some (.int .i64 k) := Maps.keyOf_int_mk Try.underlying3 hk
theorem isKeyI (k : Int) : WideAt.IsKeyLit (.int .i64 k) := trivial
theorem keyI_inv {key : Value} {kl : Lit} (h : keyOf Try.prog 3 key = some kl) : ∃ x : Int, key = .int .i64 x := by
  obtain ⟨x, rfl, _⟩ := Maps.keyOf_int_inv Try.underlying3 h
  exact ⟨x, rfl⟩
theorem same_int (a b : Int) : (Lit.int .i64 a).sameKey (.int .i64 b) = decide (a = b) := by
  by_cases h : a = b
  · subst h
    rw [WideAt.sameKey_self (isKeyI _)]
    simp
  · rw [Maps.sameKey_ne (fun e => h (by injection e))]
    simp [h]
theorem zeroSt (w : World) : (zeroValue 51).run Try.prog w = .ok (stV st0) w := by kernel_rfl

/-- What a map reads as has the sessions L. -/
structure RdT (D : DataW Value) (L : List St) : Prop where
  size : Maps.size D = L.length
  keys : ∀ k, Maps.has D (.int .i64 k) = (fndT L k).isSome
  vals : ∀ k x, fndT L k = some x → ∀ z, D.atKey (.int .i64 k) z = .held (stV x)
  rises : RisesT L
/-- The map of block b has the sessions L. -/
structure TmIs (w : World) (b : Nat) (L : List St) (D : DataW Value) : Prop where
  map : w.ownsMap Try.prog 3 heldA b L.length D
  rd : RdT D L

theorem bmap_tight {H : Type} {P : Program} {k : TypeId} {R : Value → Option (DataW H × List MemPlace)} {w : World} {b n : Nat} {D : DataW H} (h : w.ownsMap P k R b n D) : w.ownsMap P k R b (Maps.size D) D := by
  obtain ⟨es, clock, hb, F, hs, rfl⟩ := h
  exact ⟨es, clock, hb, F, by simp [Maps.size, length_sorted], rfl⟩
theorem TmIs.lt {w : World} {b : Nat} {L : List St} {D : DataW Value} (h : TmIs w b L D) : b < w.heap.size := h.map.lt
theorem TmIs.chg {w w' : World} {S : Nat → Prop} {b : Nat} {L : List St} {D : DataW Value} (h : TmIs w b L D) (hc : Chg w w' S) (hn : ¬ S b) : TmIs w' b L D := by
  have hlt := h.map.lt
  obtain ⟨es, clock, h1, rest⟩ := h.map
  exact ⟨⟨es, clock, (hc.block b hlt hn).trans h1, rest⟩, h.rd⟩
theorem TmIs.below {w w' : World} {b : Nat} {L : List St} {D : DataW Value} (h : TmIs w b L D) (hb : Below w.heap.size w w') : TmIs w' b L D := h.chg (Chg.of_below hb fun _ => False) fun e => e
theorem TmIs.drewN {w : World} {b : Nat} {L : List St} {D : DataW Value} (h : TmIs w b L D) (q : Nat) : TmIs (w.drewN q) b L D := ⟨h.map, h.rd⟩
theorem TmIs.grown {w w' : World} {b : Nat} {L : List St} {D : DataW Value} {row : Option Nat} (h : TmIs w b L D) (hg : w.grownBy w' row) (hne : row ≠ some b) : TmIs w' b L D :=
  ⟨h.map.kept hg fun e => hne e.symm, h.rd⟩

/-- 's, ok := m[k]' and 'm[k]'. -/
theorem TmIs.look {w : World} {b : Nat} {L : List St} {D : DataW Value} (h : TmIs w b L D) {k : Int} (hk : (Lit.int .i64 k).wf = true) (q : Nat) :
    (Instr.lookup 54 (.map (some b)) (.int .i64 k) true).run Try.prog (w.drewN q) = .ok (.tuple #[stV ((fndT L k).getD st0), .bool (fndT L k).isSome]) (w.drewN q) ∧ (Instr.lookup 54 (.map (some b)) (.int .i64 k) false).run Try.prog (w.drewN q) = .ok (stV ((fndT L k).getD st0)) (w.drewN q) := by
  have hmap : (w.drewN q).ownsMap Try.prog 3 heldA b L.length D := h.map
  obtain ⟨v, ps, hrun, hv⟩ := hmap.look_ok intK Try.underlying54 (zeroSt (w.drewN q)) (zd := .held (stV st0)) (zp := []) rfl (keyI hk)
  obtain ⟨v2, ps2, hrun2, hv2⟩ := hmap.lookup intK Try.underlying54 (zeroSt (w.drewN q)) (zd := .held (stV st0)) (zp := []) rfl (keyI hk)
  cases hf : fndT L k with
  | none =>
    have hh : Maps.has D (.int .i64 k) = false := by rw [h.rd.keys, hf]; rfl
    rw [Maps.atKey_of_not_has hh] at hv hv2
    obtain rfl := heldA_inv hv
    obtain rfl := heldA_inv hv2
    rw [hh] at hrun
    exact ⟨hrun, hrun2⟩
  | some x =>
    have hh : Maps.has D (.int .i64 k) = true := by rw [h.rd.keys, hf]; rfl
    rw [h.rd.vals k x hf] at hv hv2
    obtain rfl := heldA_inv hv
    obtain rfl := heldA_inv hv2
    rw [hh] at hrun
    exact ⟨hrun, hrun2⟩
set_option maxRecDepth 20000 in
/-- 'm[s.Session] = s'. -/
theorem TmIs.store {w : World} {b : Nat} {L : List St} {D : DataW Value} (h : TmIs w b L D) {x : St} (hk : (Lit.int .i64 x.s).wf = true) (hL : L.length < maxLen) :
    ∃ w' D', (Instr.mapUpdate 54 (.map (some b)) (.int .i64 x.s) (stV x)).run Try.prog w = .ok () w' ∧ w.grownBy w' (some b) ∧ TmIs w' b (insT L x) D' := by
  obtain ⟨w', hrun, hm', hg⟩ := h.map.update intK Try.underlying54 hL (keyI hk) (d := .held (stV x)) (ps := []) (val := stV x) rfl
  have htidy := h.map.tidy intK
  have hsz : Maps.size (D.put (.int .i64 x.s) (.held (stV x))) = (insT L x).length := by
    rw [Maps.size_put htidy, h.rd.keys, length_insT h.rd.rises, h.rd.size]
    cases (fndT L x.s).isSome <;> simp
  refine ⟨w', _, hrun, hg, ⟨by rw [← hsz]; exact bmap_tight hm', ⟨hsz, fun k => ?_, fun k y hy => ?_, h.rd.rises.ins x⟩⟩⟩
  · rw [fndT_ins]
    by_cases e : x.s = k
    · subst e
      rw [if_pos rfl, Maps.has_put_same h.map.isMap (isKeyI _)]
      rfl
    · rw [if_neg e, Maps.has_put_other (fun h => e (by injection h with _ h; exact h.symm)), h.rd.keys]
  · rw [fndT_ins] at hy
    by_cases e : x.s = k
    · subst e
      rw [if_pos rfl] at hy
      simp at hy
      subst hy
      intro z
      rw [Maps.atKey_put_same h.map.isMap (isKeyI _)]
    · rw [if_neg e] at hy
      intro z
      rw [Maps.atKey_put_other (fun h => e (by injection h with _ h; exact h.symm))]
      exact h.rd.vals k y hy z

/-- A map just made. -/
theorem tm_new (w : World) : TmIs (w.alloc (.map #[] 0)) w.heap.size [] (.map []) :=
  ⟨World.ownsMap_made w _ _ _, ⟨rfl, fun k => rfl, fun k x h => by simp [fndT] at h, List.Pairwise.nil⟩⟩

/-- A table in the block g, its map in b. -/
structure TbIs (w : World) (g b : Nat) (L : List St) : Prop where
  c0 : w.cell? ⟨g, 0, none⟩ = some (.map (some b))
  ne : g ≠ b
  map : ∃ D, TmIs w b L D
  ok : TbOk L
theorem TbIs.gl {w : World} {g b : Nat} {L : List St} (h : TbIs w g b L) : g < w.heap.size := lt_of_cell h.c0
theorem TbIs.bl {w : World} {g b : Nat} {L : List St} (h : TbIs w g b L) : b < w.heap.size := by obtain ⟨D, hD⟩ := h.map; exact hD.lt
theorem TbIs.chg {w w' : World} {S : Nat → Prop} {g b : Nat} {L : List St} (h : TbIs w g b L) (hc : Chg w w' S) (h1 : ¬ S g) (h2 : ¬ S b) : TbIs w' g b L :=
  ⟨hc.cell h.c0 h1, h.ne, by obtain ⟨D, hD⟩ := h.map; exact ⟨D, hD.chg hc h2⟩, h.ok⟩
theorem TbIs.below {w w' : World} {g b : Nat} {L : List St} (h : TbIs w g b L) (hb : Below w.heap.size w w') : TbIs w' g b L := h.chg (Chg.of_below hb fun _ => False) (fun e => e) (fun e => e)
theorem TbIs.drewN {w : World} {g b : Nat} {L : List St} (h : TbIs w g b L) (q : Nat) : TbIs (w.drewN q) g b L :=
  ⟨h.c0, h.ne, by obtain ⟨D, hD⟩ := h.map; exact ⟨D, hD.drewN q⟩, h.ok⟩
theorem TbIs.alloc {w : World} {g b : Nat} {L : List St} (h : TbIs w g b L) (o : Obj) : TbIs (w.alloc o) g b L := h.below ((Below.refl _ _).alloc (Nat.le_refl _) o)
theorem TbIs.with_ {w w' : World} {g b : Nat} {L L' : List St} {D : DataW Value} (h : TbIs w g b L) (hc : Chg w w' (fun k => k = b)) (hm : TmIs w' b L' D) (ho : TbOk L') : TbIs w' g b L' :=
  ⟨hc.cell h.c0 h.ne, h.ne, ⟨D, hm⟩, ho⟩

theorem bdrew {B : Nat} (w : World) (q : Nat) : Below B w (w.drewN q) := ⟨rfl, rfl, rfl, Nat.le_refl _, fun _ _ => rfl⟩
theorem bset {B : Nat} {w V : World} (h : Below B w V) {g i : Nat} {x : Value} (hB : B ≤ g) : Below B w (V.setCell ⟨g, i, none⟩ x) :=
  ⟨h.os, h.tape, h.output, by have := h.size; simpa [World.setCell] using this, fun k hk => (heap_setCell_other V ⟨g, i, none⟩ k _ (by simp; omega)).trans (h.block k hk)⟩
theorem run_some_map (b : Nat) (w : World) : (binOp .neq 54 (.map (some b)) (.map none)).run Try.prog w = .ok (.bool true) w := by
  kernel_rfl
theorem run_none_map (w : World) : (binOp .neq 54 (.map none) (.map none)).run Try.prog w = .ok (.bool false) w := by
  kernel_rfl
theorem wf40 {n : Int} (h0 : -9223372036854775808 ≤ n) (h1 : n ≤ 9223372036854775807) : (Lit.int .i64 n).wf = true := by
  have h1' : IntKind.i64.min = -9223372036854775808 := rfl
  have h2 : IntKind.i64.max = 9223372036854775807 := rfl
  simp only [Lit.wf, Bool.and_eq_true, decide_eq_true_eq]
  omega
end Go.Proofs.Ytfbndbmhnpleoaa
