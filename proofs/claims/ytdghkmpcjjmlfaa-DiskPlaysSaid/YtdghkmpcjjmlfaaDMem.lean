/- Files in memory: a map of slices, each in a block of its own. -/
import Derived.Test.YtdghkmpcjjmlfaaMem
import Derived.Test.YtdghkmpcjjmlfaaDPlain
import Derived.Maps.OwnSet
import Derived.Maps.RangeWalk
import Derived.Maps.Ext
namespace Go.Proofs.Ytdghkmpcjjmlfaa
open Go.RowKit

/-- From w to w' nothing that was there has changed but in S. -/
structure Chg (w w' : World) (S : Nat → Prop) : Prop where
  os : w'.os = w.os
  tape : w'.tape = w.tape
  output : w'.output = w.output
  size : w.heap.size ≤ w'.heap.size
  block : ∀ k, k < w.heap.size → ¬ S k → w'.heap[k]? = w.heap[k]?

theorem Chg.refl (w : World) (S : Nat → Prop) : Chg w w S := ⟨rfl, rfl, rfl, Nat.le_refl _, fun _ _ _ => rfl⟩
theorem Chg.trans {a b c : World} {S S' : Nat → Prop} (h : Chg a b S) (h' : Chg b c S') (hs : ∀ k, S' k → S k ∨ a.heap.size ≤ k) : Chg a c S :=
  ⟨h'.os.trans h.os, h'.tape.trans h.tape, h'.output.trans h.output, Nat.le_trans h.size h'.size, fun k hk hn =>
    (h'.block k (Nat.lt_of_lt_of_le hk h.size) (fun h1 => by
      rcases hs k h1 with h2 | h2
      · exact hn h2
      · omega)).trans (h.block k hk hn)⟩
theorem Chg.mono {w w' : World} {S S' : Nat → Prop} (h : Chg w w' S) (hs : ∀ k, S k → S' k) : Chg w w' S' :=
  ⟨h.os, h.tape, h.output, h.size, fun k hk hn => h.block k hk fun h1 => hn (hs k h1)⟩
theorem Chg.of_grown {w w' : World} {row : Option Nat} (h : w.grownBy w' row) (S : Nat → Prop) (hs : ∀ k, row = some k → S k ∨ w.heap.size ≤ k) : Chg w w' S :=
  ⟨h.os, h.tape, h.output, h.size, fun k hk hn => h.block k hk fun e => by
    rcases hs k e.symm with h1 | h1
    · exact hn h1
    · omega⟩
theorem Chg.of_below {w w' : World} (h : Below w.heap.size w w') (S : Nat → Prop) : Chg w w' S := ⟨h.os, h.tape, h.output, h.size, fun k hk _ => h.block k hk⟩
theorem Chg.drewN {w w' : World} {S : Nat → Prop} (h : Chg w w' S) (n : Nat) : Chg w (w'.drewN n) S := ⟨h.os, h.tape, h.output, h.size, h.block⟩
theorem Chg.to_below {w0 w w' : World} {S : Nat → Prop} (hb : Below w0.heap.size w0 w) (h : Chg w w' S) (hs : ∀ k, S k → w0.heap.size ≤ k) : Below w0.heap.size w0 w' :=
  ⟨h.os.trans hb.os, h.tape.trans hb.tape, h.output.trans hb.output, Nat.le_trans hb.size h.size, fun k hk => (h.block k (Nat.lt_of_lt_of_le hk hb.size) (fun h1 => by have := hs k h1; omega)).trans (hb.block k hk)⟩
theorem Chg.cell {w w' : World} {S : Nat → Prop} (h : Chg w w' S) {a : Addr} {v : Value} (hc : w.cell? a = some v) (hn : ¬ S a.block) : w'.cell? a = some v :=
  (World.cell?_of_block (h.block a.block (World.block_lt_of_cell? w a hc) hn)).trans hc

theorem row_chg {w w' : World} {S : Nat → Prop} {B n s : Nat} {e : TypeId} {v : Value} {xs : List Value} (h : w.ownsRow B e s v n xs) (hc : Chg w w' S) (hne : ∀ k, v.ownBlock = some k → ¬ S k) : w'.ownsRow B e s v n xs := by
  refine ⟨h.1, ?_⟩
  rcases h.2 with hn | ⟨g, cap, cur, rfl, hb, hg, rest⟩
  · exact .inl hn
  · exact .inr ⟨g, cap, cur, rfl, hb, (hc.block g (Array.getElem?_eq_some_iff.1 hg).1 (hne g rfl)).trans hg, rest⟩

theorem By.chg {w w' : World} {S : Nat → Prop} {v : Value} {l : List UInt8} (h : By w v l) (hc : Chg w w' S) (hne : l = [] ∨ ∀ k, v.ownBlock = some k → ¬ S k) : By w' v l := by
  obtain ⟨p, cap, rfl, hl, hm, hn, hcell⟩ := h
  refine ⟨p, cap, rfl, hl, hm, hn, fun a e i x hx => ?_⟩
  rcases hne with rfl | hne
  · simp at hx
  · subst e
    refine hc.cell (hcell a rfl i x hx) ?_
    rw [block_add]
    exact hne a.block rfl

theorem by_row {w : World} {B n : Nat} {v : Value} {l : List UInt8} (h : w.ownsRow B 5 1 v n (l.map bv)) : By w v l := (Own.of_row h).by_

theorem map_chg {H : Type} {P : Program} {k : TypeId} {R : Value → Option (DataW H × List MemPlace)} {w w' : World} {S : Nat → Prop} {b n : Nat} {D : DataW H} (h : w.ownsMap P k R b n D) (hc : Chg w w' S) (hb : ¬ S b) : w'.ownsMap P k R b n D := by
  have hlt := h.lt
  obtain ⟨es, clock, h1, rest⟩ := h
  exact ⟨es, clock, (hc.block b hlt hb).trans h1, rest⟩

/-- A map with no more room than it needs. -/
theorem map_tight {H : Type} {P : Program} {k : TypeId} {R : Value → Option (DataW H × List MemPlace)} {w : World} {b n : Nat} {D : DataW H} (h : w.ownsMap P k R b n D) : w.ownsMap P k R b (Maps.size D) D := by
  obtain ⟨es, clock, hb, F, hs, rfl⟩ := h
  exact ⟨es, clock, hb, F, by simp [Maps.size, length_sorted], rfl⟩

/-- How an element reads: as itself. -/
def held : Value → Option (DataW Value × List MemPlace)
  | .slice p n c => some (.held (.slice p n c), [])
  | _ => none
theorem held_inv {v u : Value} {ps : List MemPlace} (h : held v = some (.held u, ps)) : v = u := by
  cases v <;> simp [held] at h
  exact h.1
theorem held_slice {v : Value} {y : DataW Value × List MemPlace} (h : held v = some y) : (∃ c : Option Addr × Nat × Nat, v = .slice c.1 c.2.1 c.2.2) ∧ y.1 = .held v := by
  cases v <;> simp [held] at h
  subst h
  exact ⟨⟨(_, _, _), rfl⟩, rfl⟩
theorem held_row {w : World} {B n s : Nat} {e : TypeId} {v : Value} {xs : List Value} (h : w.ownsRow B e s v n xs) : held v = some (.held v, []) := by
  rcases h.2 with ⟨rfl, _⟩ | ⟨g, cap, cur, rfl, _⟩
  · rfl
  · rfl

theorem strK : Maps.Keyed Try.prog 9 := Maps.string_keyed Try.underlying9
theorem keyS {s : ByteArray} (hs : s.size ≤ maxLen) : keyOf Try.prog 9 (.string s) = some (.string s.data.toList) := WideMaps.keyOf_string_mk Try.underlying9 hs
theorem isKey (k : List UInt8) : WideAt.IsKeyLit (.string k) := trivial
theorem zeroB (w : World) : (zeroValue 32).run Try.prog w = .ok (.slice none 0 0) w := by kernel_rfl

/-- Files in memory: the map's block b, each file's bytes in a block of its own, all of it in S. -/
structure FilesIs (w : World) (S : Nat → Prop) (b : Nat) (F : Fl) (V : List UInt8 → Value) (D : DataW Value) : Prop where
  map : w.ownsMap Try.prog 9 held b F.length D
  size : Maps.size D = F.length
  in_ : S b
  rises : Rises F
  keys : ∀ k, Maps.has D (.string k) = (get F k).isSome
  vals : ∀ k bs, get F k = some bs → (∀ z, D.atKey (.string k) z = .held (V k)) ∧ w.ownsRow 0 5 1 (V k) bs.length (bs.map bv)
  blk : ∀ k bs i, get F k = some bs → (V k).ownBlock = some i → S i ∧ i ≠ b
  apart : ∀ k k' bs bs' i, k ≠ k' → get F k = some bs → get F k' = some bs' → (V k).ownBlock = some i → (V k').ownBlock ≠ some i

theorem FilesIs.mono {w : World} {S S' : Nat → Prop} {b : Nat} {F : Fl} {V : List UInt8 → Value} {D : DataW Value} (h : FilesIs w S b F V D) (hs : ∀ i, S i → S' i) : FilesIs w S' b F V D :=
  ⟨h.map, h.size, hs _ h.in_, h.rises, h.keys, h.vals, fun k bs i h1 h2 => ⟨hs _ (h.blk k bs i h1 h2).1, (h.blk k bs i h1 h2).2⟩, h.apart⟩

theorem FilesIs.chg {w w' : World} {S T : Nat → Prop} {b : Nat} {F : Fl} {V : List UInt8 → Value} {D : DataW Value} (h : FilesIs w S b F V D) (hc : Chg w w' T) (hd : ∀ i, S i → ¬ T i) : FilesIs w' S b F V D :=
  ⟨map_chg h.map hc (hd _ h.in_), h.size, h.in_, h.rises, h.keys, fun k bs hk => ⟨(h.vals k bs hk).1, row_chg (h.vals k bs hk).2 hc fun i hi => hd i (h.blk k bs i hk hi).1⟩, h.blk, h.apart⟩

/-- 'v, ok := f[name]' and 'f[name]'. -/
theorem FilesIs.look {w : World} {S : Nat → Prop} {b : Nat} {F : Fl} {V : List UInt8 → Value} {D : DataW Value} (h : FilesIs w S b F V D) {s : ByteArray} (hs : s.size ≤ maxLen) :
    (∀ bs, get F s.data.toList = some bs → ∀ q, (Instr.lookup 51 (.map (some b)) (.string s) true).run Try.prog (w.drewN q) = .ok (.tuple #[V s.data.toList, .bool true]) (w.drewN q) ∧ (Instr.lookup 51 (.map (some b)) (.string s) false).run Try.prog (w.drewN q) = .ok (V s.data.toList) (w.drewN q)) ∧
    (get F s.data.toList = none → ∀ q, (Instr.lookup 51 (.map (some b)) (.string s) true).run Try.prog (w.drewN q) = .ok (.tuple #[.slice none 0 0, .bool false]) (w.drewN q) ∧ (Instr.lookup 51 (.map (some b)) (.string s) false).run Try.prog (w.drewN q) = .ok (.slice none 0 0) (w.drewN q)) := by
  have hmap : ∀ q, (w.drewN q).ownsMap Try.prog 9 held b F.length D := fun q => h.map
  refine ⟨fun bs hbs q => ?_, fun hn q => ?_⟩
  · obtain ⟨v, ps, hrun, hv⟩ := (hmap q).look_ok strK Try.underlying51 (zeroB (w.drewN q)) (zd := .held (.slice none 0 0)) (zp := []) rfl (keyS hs)
    obtain ⟨v2, ps2, hrun2, hv2⟩ := (hmap q).lookup strK Try.underlying51 (zeroB (w.drewN q)) (zd := .held (.slice none 0 0)) (zp := []) rfl (keyS hs)
    rw [(h.vals _ bs hbs).1] at hv hv2
    obtain rfl := held_inv hv
    obtain rfl := held_inv hv2
    rw [h.keys, hbs] at hrun
    exact ⟨hrun, hrun2⟩
  · have hk : Maps.has D (.string s.data.toList) = false := by rw [h.keys, hn]; rfl
    obtain ⟨v, ps, hrun, hv⟩ := (hmap q).look_ok strK Try.underlying51 (zeroB (w.drewN q)) (zd := .held (.slice none 0 0)) (zp := []) rfl (keyS hs)
    obtain ⟨v2, ps2, hrun2, hv2⟩ := (hmap q).lookup strK Try.underlying51 (zeroB (w.drewN q)) (zd := .held (.slice none 0 0)) (zp := []) rfl (keyS hs)
    rw [Maps.atKey_of_not_has hk] at hv hv2
    obtain rfl := held_inv hv
    obtain rfl := held_inv hv2
    rw [hk] at hrun
    exact ⟨hrun, hrun2⟩

set_option maxRecDepth 20000 in
/-- 'f[name] = v', v's bytes in a block that is no other file's. -/
theorem FilesIs.store {w : World} {S S' : Nat → Prop} {b : Nat} {F : Fl} {V : List UInt8 → Value} {D : DataW Value} {s : ByteArray} {v : Value} {bs : List UInt8} (hs : s.size ≤ maxLen)
    (map : w.ownsMap Try.prog 9 held b F.length D) (hsize : Maps.size D = F.length) (hn : F.length < maxLen) (hin : S b) (rises : Rises F) (keys : ∀ k, Maps.has D (.string k) = (get F k).isSome)
    (vals : ∀ k bs, k ≠ s.data.toList → get F k = some bs → (∀ z, D.atKey (.string k) z = .held (V k)) ∧ w.ownsRow 0 5 1 (V k) bs.length (bs.map bv))
    (blk : ∀ k bs i, k ≠ s.data.toList → get F k = some bs → (V k).ownBlock = some i → S i ∧ i ≠ b)
    (apart : ∀ k k' bs bs' i, k ≠ s.data.toList → k' ≠ s.data.toList → k ≠ k' → get F k = some bs → get F k' = some bs' → (V k).ownBlock = some i → (V k').ownBlock ≠ some i)
    (hrow : w.ownsRow 0 5 1 v bs.length (bs.map bv)) (hS : ∀ i, S i → S' i) (hvb : ∀ i, v.ownBlock = some i → S' i ∧ i ≠ b)
    (hsep : ∀ k bs i, k ≠ s.data.toList → get F k = some bs → v.ownBlock = some i → (V k).ownBlock ≠ some i) :
    ∃ w', (Instr.mapUpdate 51 (.map (some b)) (.string s) v).run Try.prog w = .ok () w' ∧ w.grownBy w' (some b) ∧ FilesIs w' S' b (put F s.data.toList bs) (fun k => if k = s.data.toList then v else V k) (D.put (.string s.data.toList) (.held v)) := by
  obtain ⟨w', hrun, hm', hg⟩ := map.update strK Try.underlying51 hn (keyS hs) (d := .held v) (ps := []) (val := v) (held_row hrow)
  have htidy := map.tidy strK
  have hD' : Maps.size (D.put (.string s.data.toList) (.held v)) = (put F s.data.toList bs).length := by
    rw [Maps.size_put htidy, hsize, length_put rises, keys]
  have hgb : ∀ i, i ≠ b → some i ≠ some b := fun i hi e => hi (by injection e)
  refine ⟨w', hrun, hg, ⟨?_, hD', hS _ hin, rises.put _ _, fun k => ?_, fun k bs' hk => ?_, fun k bs' i hk hi => ?_, fun k k' bs1 bs2 i hne h1 h2 h3 => ?_⟩⟩
  · rw [← hD']
    exact map_tight hm'
  · rw [get_put]
    by_cases e : s.data.toList = k
    · subst e
      rw [if_pos rfl, Maps.has_put_same map.isMap (isKey _)]
      rfl
    · rw [if_neg e, Maps.has_put_other (fun h => e (by injection h with h; exact h.symm)), keys]
  · rw [get_put] at hk
    by_cases e : s.data.toList = k
    · subst e
      rw [if_pos rfl] at hk
      injection hk with hk
      subst hk
      refine ⟨fun z => ?_, ?_⟩
      · rw [Maps.atKey_put_same map.isMap (isKey _), if_pos rfl]
      · rw [if_pos rfl]
        exact hrow.kept hg (by
          rcases hvo : v.ownBlock with _ | i
          · exact .inl rfl
          · exact .inr (hgb i (hvb i hvo).2))
    · rw [if_neg e] at hk
      have e' : k ≠ s.data.toList := fun h => e h.symm
      refine ⟨fun z => ?_, ?_⟩
      · rw [Maps.atKey_put_other (fun h => e (by injection h with h; exact h.symm)), if_neg e', (vals k bs' e' hk).1]
      · rw [if_neg e']
        exact (vals k bs' e' hk).2.kept hg (by
          rcases hvo : (V k).ownBlock with _ | i
          · exact .inl rfl
          · exact .inr (hgb i (blk k bs' i e' hk hvo).2))
  · rw [get_put] at hk
    by_cases e : s.data.toList = k
    · subst e
      rw [if_pos rfl] at hi
      exact hvb i hi
    · have e' : k ≠ s.data.toList := fun h => e h.symm
      rw [if_neg e] at hk
      rw [if_neg e'] at hi
      exact ⟨hS _ (blk k bs' i e' hk hi).1, (blk k bs' i e' hk hi).2⟩
  · rw [get_put] at h1 h2
    by_cases e1 : s.data.toList = k
    · have e2 : k' ≠ s.data.toList := fun h => hne (by rw [h, e1])
      rw [if_neg (fun h => e2 h.symm)] at h2
      rw [if_pos e1.symm] at h3
      rw [if_neg e2]
      exact hsep k' bs2 i e2 h2 h3
    · have e1' : k ≠ s.data.toList := fun h => e1 h.symm
      rw [if_neg e1] at h1
      rw [if_neg e1'] at h3
      by_cases e2 : s.data.toList = k'
      · rw [if_pos e2.symm]
        exact fun h => hsep k bs1 i e1' h1 h h3
      · have e2' : k' ≠ s.data.toList := fun h => e2 h.symm
        rw [if_neg e2] at h2
        rw [if_neg e2']
        exact apart k k' bs1 bs2 i e1' e2' hne h1 h2 h3

set_option maxRecDepth 20000 in
/-- 'delete(f, name)'. -/
theorem FilesIs.drop {w : World} {S : Nat → Prop} {b : Nat} {F : Fl} {V : List UInt8 → Value} {D : DataW Value} (h : FilesIs w S b F V D) {s : ByteArray} (hs : s.size ≤ maxLen) (ty : TypeId) :
    ∃ w', (Builtin.delete_ #[51, 9] ty #[.map (some b), .string s]).run Try.prog w = .ok (.tuple #[]) w' ∧ w.grownBy w' (some b) ∧ FilesIs w' S b (del F s.data.toList) V (D.del (.string s.data.toList)) := by
  obtain ⟨w', hrun, hm', ht⟩ := h.map.drop strK Try.underlying51 (keyS hs) ty
  have hg := ht.grown
  have htidy := h.map.tidy strK
  have hsz : Maps.size (D.del (.string s.data.toList)) = (del F s.data.toList).length := by
    have h1 := Maps.size_del (k := .string s.data.toList) htidy
    have h2 := length_del h.rises s.data.toList
    rw [h.keys, h.size] at h1
    omega
  have hgb : ∀ i, i ≠ b → some i ≠ some b := fun i hi e => hi (by injection e)
  have some_of : ∀ {k bs}, get (del F s.data.toList) k = some bs → s.data.toList ≠ k ∧ get F k = some bs := fun {k bs} hk => by
    rw [get_del] at hk
    by_cases e : s.data.toList = k
    · rw [if_pos e] at hk
      cases hk
    · rw [if_neg e] at hk
      exact ⟨e, hk⟩
  refine ⟨w', hrun, hg, ⟨?_, hsz, h.in_, h.rises.del _, fun k => ?_, fun k bs' hk => ?_, fun k bs' i hk hi => h.blk k bs' i (some_of hk).2 hi, fun k k' bs1 bs2 i hne h1 h2 h3 => h.apart k k' bs1 bs2 i hne (some_of h1).2 (some_of h2).2 h3⟩⟩
  · rw [← hsz]
    exact map_tight hm'
  · rw [get_del]
    by_cases e : s.data.toList = k
    · subst e
      rw [if_pos rfl, Maps.has_del_same]
      rfl
    · rw [if_neg e, Maps.has_del_other (fun h => e (by injection h with h; exact h.symm)), h.keys]
  · obtain ⟨e, hk⟩ := some_of hk
    refine ⟨fun z => ?_, (h.vals k bs' hk).2.kept hg ?_⟩
    · rw [Maps.atKey_del_other (fun h => e (by injection h with h; exact h.symm)), (h.vals k bs' hk).1]
    · rcases hvo : (V k).ownBlock with _ | i
      · exact .inl rfl
      · exact .inr (hgb i (h.blk k bs' i hk hvo).2)

theorem take_splice {α : Type} (A cs : List α) (a N : Nat) (h : a + cs.length ≤ N) (hN : N ≤ A.length) : (A.take a ++ cs ++ A.drop (a + cs.length)).take N = (A.take N).take a ++ cs ++ (A.take N).drop (a + cs.length) := by
  have e1 : (A.take a ++ cs).length = a + cs.length := by rw [List.length_append, List.length_take]; omega
  rw [List.take_append, List.take_of_length_le (by omega), e1, List.take_take, Nat.min_eq_left (by omega), List.drop_take]

/-- A cut's place in the row. -/
theorem cut_own {w : World} {q0 : Option Addr} {n0 c0 N : Nat} {xs : List Value} (h : w.ownsRow 0 5 1 (.slice q0 n0 c0) N xs) {k : Nat} (hk : k ≤ N) :
    N = n0 ∧ ∃ q, (∀ W : World, (Instr.slice 32 (.slice q0 n0 c0) (some (.int .i64 (k : Int))) none none).run Try.prog W = .ok (.slice q (n0 - k) (c0 - k)) W) ∧ (k < N → ∃ g, q0 = some ⟨g, 0, none⟩ ∧ q = some ⟨g, k, none⟩) := by
  have hN : N = n0 ∧ n0 ≤ c0 ∧ (q0 = none → n0 = 0) ∧ ∀ a, q0 = some a → ∃ g, a = ⟨g, 0, none⟩ := by
    rcases h.2 with ⟨e, h0⟩ | ⟨g, cap, cur, e, hb, hg, hl, rest⟩
    · injection e with e1 e2 e3
      subst e1 e2 e3
      exact ⟨h0, Nat.le_refl _, fun _ => rfl, fun a ha => by cases ha⟩
    · injection e with e1 e2 e3
      subst e1 e2 e3
      exact ⟨rfl, hl, (fun e => by cases e), fun a ha => by injection ha with ha; exact ⟨g, ha.symm⟩⟩
  obtain ⟨rfl, hnc, h0, hg⟩ := hN
  refine ⟨rfl, if c0 = k then q0 else q0.map (·.add k), fun W => ?_, fun hlt => ?_⟩
  · rw [run_slice_l W 32 _ _ _ underB' .i64 _ (by omega) (by omega), elemB, Try.sizeOf5]
    have e4 : ((k : Int)).toNat = k := by omega
    simp only [e4, Result.andThen, sliced, Nat.mul_one]
  · rcases q0 with _ | a
    · have := h0 rfl
      omega
    · obtain ⟨g, rfl⟩ := hg a rfl
      refine ⟨g, rfl, ?_⟩
      rw [if_neg (by omega)]
      simp only [Option.map_some, Option.some.injEq]
      rw [add_lit0, Nat.zero_add]

theorem row_cur {w : World} {q0 : Option Addr} {n0 c0 N g : Nat} {xs : List Value} (h : w.ownsRow 0 5 1 (.slice q0 n0 c0) N xs) (hq : q0 = some ⟨g, 0, none⟩) : N = n0 ∧ N ≤ c0 ∧ c0 ≤ maxLen ∧ ∃ cur, w.heap[g]? = some (.cells cur 5 (0, 0)) ∧ cur.size = c0 ∧ cur.toList.take N = xs := by
  rcases h.2 with ⟨e, h0⟩ | ⟨g', cap, cur, e, hb, hg, hl, hm, hs, ht⟩
  · injection e with e1 e2 e3
    rw [hq] at e1
    cases e1
  · injection e with e1 e2 e3
    subst e2 e3
    rw [hq] at e1
    injection e1 with e1
    injection e1 with e1
    subst e1
    exact ⟨rfl, hl, hm, cur, hg, by simpa using hs, by simpa using ht⟩

set_option maxRecDepth 20000 in
/-- 'copy(old[at:], b)', old's own row. -/
theorem run_copy_put {w : World} {q0 : Option Addr} {n0 c0 : Nat} {o m : List UInt8} (hrow : w.ownsRow 0 5 1 (.slice q0 n0 c0) o.length (o.map bv)) {at_ : Nat} (hat : at_ ≤ o.length) {q1 : Option Addr} {d1 L : Nat} (hL : L = o.length - at_) (hq : at_ < o.length → ∃ g, q0 = some ⟨g, 0, none⟩ ∧ q1 = some ⟨g, at_, none⟩)
    {p : Option Addr} {n c : Nat} (hx : By w (.slice p n c) m) (ty : TypeId) :
    ∃ w', (Builtin.copy_ #[32, 32] ty #[.slice q1 L d1, .slice p n c]).run Try.prog w = .ok (.int .i64 ((min m.length L : Nat) : Int)) w' ∧
      w'.ownsRow 0 5 1 (.slice q0 n0 c0) o.length ((o.take at_ ++ m.take (min m.length L) ++ o.drop (at_ + min m.length L)).map bv) ∧ w.grownBy w' (Value.slice q0 n0 c0).ownBlock := by
  have hs5 : (Try.prog.info? 5).map (·.size) = some 1 := by kernel_rfl
  have hnm := hx.len.1
  obtain ⟨k, hk⟩ : ∃ k, min m.length L = k := ⟨_, rfl⟩
  rw [hk]
  by_cases h0 : k = 0
  · subst h0
    refine ⟨w, ?_, ?_, World.grownBy.refl _ _⟩
    · rw [run_copy_none w 32 32 ty 5 q1 p L d1 n c Try.underlying32 hs5 (by show min n L = 0; rw [hnm]; exact hk)]
      rfl
    · rw [List.take_zero, List.append_nil, Nat.add_zero, List.take_append_drop]
      exact hrow
  · obtain ⟨g, hq0, hq1⟩ := hq (by omega)
    obtain ⟨hN, hNc, hcm, cur, hg, hcs, hct⟩ := row_cur hrow hq0
    obtain ⟨p', cap, e, hl, hm, hno, hcell⟩ := hx
    injection e with e1 e2 e3
    subst e1 e3
    have hcl : cur.toList.length = c0 := by rw [Array.length_toList]; exact hcs
    rcases p with _ | a
    · have := hno rfl
      omega
    · have hlen : ((m.take k).map bv).length = k := by rw [List.length_map, List.length_take]; omega
      have hrun := run_copy_row (P := Try.prog) w 32 32 ty 5 g at_ L d1 a n c cur 5 ((m.take k).map bv) Try.underlying32 hs5 hg (by rw [hlen]; show k = min n L; rw [hnm]; exact hk.symm)
        (fun j v hj => by
          rw [List.getElem?_map, List.getElem?_take] at hj
          split at hj
          · rcases hmj : m[j]? with _ | x
            · rw [hmj] at hj
              cases hj
            · rw [hmj] at hj
              injection hj with hj
              subst hj
              exact hcell a rfl j x hmj
          · cases hj) (by rw [hlen]; omega) (fun v hv => oneCell_bytes _ v hv)
      rw [hq1, hrun]
      rw [hlen]
      refine ⟨_, rfl, ⟨by simp [List.length_map, List.length_append, List.length_take, List.length_drop]; omega, .inr ⟨g, c0, _, by rw [hq0, hN], Nat.zero_le _, setRow_heap w g cur _ 5 _ hg, by omega, hcm, ?_, ?_⟩⟩, ?_⟩
      · simp only [List.size_toArray, List.length_append, List.length_take, List.length_drop, List.length_map]
        omega
      · rw [List.toList_toArray, Nat.mul_one]
        have ht := take_splice cur.toList ((m.take k).map bv) at_ o.length (by rw [hlen]; omega) (by omega)
        rw [hlen] at ht
        rw [ht, hct]
        simp only [List.map_append, List.map_take, List.map_drop]
      · rw [hq0]
        exact ⟨rfl, rfl, rfl, by simp [World.setRow], fun i _ hi => setRow_other w g i _ (fun e => hi (by rw [e]; rfl))⟩

/-- S and what is new. -/
def Ext (S : Nat → Prop) (w w' : World) : Nat → Prop := fun i => S i ∨ (w.heap.size ≤ i ∧ i < w'.heap.size)
theorem Ext.sub {S : Nat → Prop} {w w' : World} {i : Nat} (h : S i) : Ext S w w' i := .inl h
theorem Ext.trans {S : Nat → Prop} {a b c : World} (h1 : a.heap.size ≤ b.heap.size) (h2 : b.heap.size ≤ c.heap.size) {i : Nat} (h : Ext (Ext S a b) b c i) : Ext S a c i := by
  rcases h with (h | h) | h
  · exact .inl h
  · exact .inr ⟨h.1, by omega⟩
  · exact .inr ⟨by omega, h.2⟩
theorem Ext.lt {S : Nat → Prop} {a b : World} (hS : ∀ i, S i → i < a.heap.size) (hs : a.heap.size ≤ b.heap.size) {i : Nat} (h : Ext S a b i) : i < b.heap.size := by
  rcases h with h | h
  · have := hS i h
    omega
  · exact h.2
theorem Chg.extTrans {S : Nat → Prop} {a b c : World} (h : Chg a b S) (h' : Chg b c (Ext S a b)) : Chg a c S :=
  h.trans h' fun k hk => by
    rcases hk with hk | hk
    · exact .inl hk
    · exact .inr hk.1

/-- An append to a row of one's own: the new row, and where it lies. -/
theorem run_append_own {w : World} {v x : Value} {l m : List UInt8} (hv : w.ownsRow 0 5 1 v l.length (l.map bv)) (hx : By w x m) (hs : l.length + m.length ≤ 140737488355328) :
    ∃ v' w', (Builtin.append_ #[32, 32] 32 #[v, x]).run Try.prog w = .ok v' w' ∧ w'.ownsRow 0 5 1 v' (l ++ m).length ((l ++ m).map bv) ∧ w.grownBy w' v.ownBlock ∧ (∀ k, v'.ownBlock = some k → v.ownBlock = some k ∨ w.heap.size ≤ k) := by
  obtain ⟨v1, w1, r1, a1, _⟩ := run_append_row_by (B := 0) hv hx hs (Nat.zero_le _)
  obtain ⟨v2, w2, r2, _, b2, _, b4⟩ := run_append_by (B := 0) (Own.of_row hv) hx hs (Nat.zero_le _)
  rw [r1] at r2
  injection r2 with e1 e2
  subst e1 e2
  exact ⟨v1, w1, r1, a1, b2, b4⟩

/-- 'f[name] = v' behind work on that file alone. -/
theorem FilesIs.set {w w2 : World} {S T : Nat → Prop} {b : Nat} {F : Fl} {V : List UInt8 → Value} {D : DataW Value} (h : FilesIs w S b F V D) {s : ByteArray} (hs : s.size ≤ maxLen) (hn : F.length ≤ 1000000)
    (hc : Chg w w2 T) (hT : ∀ i, T i → ∃ bs, get F s.data.toList = some bs ∧ (V s.data.toList).ownBlock = some i) {v : Value} {bs : List UInt8} (hrow : w2.ownsRow 0 5 1 v bs.length (bs.map bv)) (hv : ∀ i, v.ownBlock = some i → T i ∨ w.heap.size ≤ i) :
    ∃ w' V' D', (Instr.mapUpdate 51 (.map (some b)) (.string s) v).run Try.prog w2 = .ok () w' ∧ FilesIs w' (Ext S w w') b (put F s.data.toList bs) V' D' ∧ Chg w w' S := by
  have hTb : ¬ T b := fun hb => by
    obtain ⟨bs', h1, h2⟩ := hT b hb
    exact (h.blk _ _ _ h1 h2).2 rfl
  have hTS : ∀ i, T i → S i := fun i hi => by
    obtain ⟨bs', h1, h2⟩ := hT i hi
    exact (h.blk _ _ _ h1 h2).1
  have hvlt : ∀ i, v.ownBlock = some i → i < w2.heap.size := fun i hi => (hrow.lt i hi).2
  have hblt := h.map.lt
  obtain ⟨w', hrun, hg, hF⟩ := FilesIs.store (S := S) (S' := Ext S w w2) (V := V) (v := v) (bs := bs) hs (map_chg h.map hc hTb) h.size (by unfold maxLen; omega) h.in_ h.rises h.keys
    (fun k bs' hk hg => ⟨(h.vals k bs' hg).1, row_chg (h.vals k bs' hg).2 hc fun i hi ht => by
      obtain ⟨bs2, h1, h2⟩ := hT i ht
      exact h.apart k _ bs' bs2 i hk hg h1 hi h2⟩)
    (fun k bs' i hk hg hi => h.blk k bs' i hg hi)
    (fun k k' bs1 bs2 i _ _ hne h1 h2 h3 => h.apart k k' bs1 bs2 i hne h1 h2 h3)
    hrow (fun i hi => .inl hi)
    (fun i hi => by
      rcases hv i hi with h1 | h1
      · exact ⟨.inl (hTS i h1), fun e => hTb (e ▸ h1)⟩
      · exact ⟨.inr ⟨h1, hvlt i hi⟩, by omega⟩)
    (fun k bs' i hk hg hi => by
      rcases hv i hi with h1 | h1
      · obtain ⟨bs2, h2, h3⟩ := hT i h1
        exact fun e => h.apart k _ bs' bs2 i hk hg h2 e h3
      · intro e
        have := ((h.vals k bs' hg).2.lt i e).2
        omega)
  refine ⟨w', _, _, hrun, hF.mono fun i hi => ?_, (hc.mono hTS).trans (Chg.of_grown hg S fun k hk => ?_) fun k hk => .inl hk⟩
  · rcases hi with hi | hi
    · exact .inl hi
    · exact .inr ⟨hi.1, Nat.lt_of_lt_of_le hi.2 hg.size⟩
  · injection hk with hk
    exact .inl (hk ▸ h.in_)
end Go.Proofs.Ytdghkmpcjjmlfaa
