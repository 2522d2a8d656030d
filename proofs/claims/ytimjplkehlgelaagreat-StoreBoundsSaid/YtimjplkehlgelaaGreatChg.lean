/- What has changed from one world to another lies in a set of blocks. -/
import Derived.Test.YtimjplkehlgelaaGreatBase
namespace Go.Proofs.YtimjplkehlgelaaGreat
open Go.RowKit

/-- From w to w' nothing that was there has changed but in S. -/
structure Chg (w w' : World) (S : Nat → Prop) : Prop where
  os : w'.os = w.os
  tape : w'.tape = w.tape
  output : w'.output = w.output
  size : w.heap.size ≤ w'.heap.size
  block : ∀ k, k < w.heap.size → ¬ S k → w'.heap[k]? = w.heap[k]?

theorem Chg.refl (w : World) (S : Nat → Prop) : Chg w w S := ⟨rfl, rfl, rfl, Nat.le_refl _, fun _ _ _ => rfl⟩
theorem Chg.trans {a b c : World} {S S' : Nat → Prop} (h : Chg a b S) (h' : Chg b c S') (hs : ∀ k, S' k → S k ∨ a.heap.size ≤ k) : Chg a c S :=
  ⟨h'.os.trans h.os, h'.tape.trans h.tape, h'.output.trans h.output, Nat.le_trans h.size h'.size, fun k hk hn =>
    (h'.block k (Nat.lt_of_lt_of_le hk h.size) (fun h1 => by
      rcases hs k h1 with h2 | h2
      · exact hn h2
      · omega)).trans (h.block k hk hn)⟩
theorem Chg.mono {w w' : World} {S S' : Nat → Prop} (h : Chg w w' S) (hs : ∀ k, S k → S' k) : Chg w w' S' :=
  ⟨h.os, h.tape, h.output, h.size, fun k hk hn => h.block k hk fun h1 => hn (hs k h1)⟩
theorem Chg.of_grown {w w' : World} {row : Option Nat} (h : w.grownBy w' row) (S : Nat → Prop) (hs : ∀ k, row = some k → S k ∨ w.heap.size ≤ k) : Chg w w' S :=
  ⟨h.os, h.tape, h.output, h.size, fun k hk hn => h.block k hk fun e => by
    rcases hs k e.symm with h1 | h1
    · exact hn h1
    · omega⟩
theorem Chg.of_below {w w' : World} (h : Below w.heap.size w w') (S : Nat → Prop) : Chg w w' S := ⟨h.os, h.tape, h.output, h.size, fun k hk _ => h.block k hk⟩
theorem Chg.drewN {w w' : World} {S : Nat → Prop} (h : Chg w w' S) (n : Nat) : Chg w (w'.drewN n) S := ⟨h.os, h.tape, h.output, h.size, h.block⟩
theorem Chg.to_below {w0 w w' : World} {S : Nat → Prop} (hb : Below w0.heap.size w0 w) (h : Chg w w' S) (hs : ∀ k, S k → w0.heap.size ≤ k) : Below w0.heap.size w0 w' :=
  ⟨h.os.trans hb.os, h.tape.trans hb.tape, h.output.trans hb.output, Nat.le_trans hb.size h.size, fun k hk => (h.block k (Nat.lt_of_lt_of_le hk hb.size) (fun h1 => by have := hs k h1; omega)).trans (hb.block k hk)⟩
theorem Chg.cell {w w' : World} {S : Nat → Prop} (h : Chg w w' S) {a : Addr} {v : Value} (hc : w.cell? a = some v) (hn : ¬ S a.block) : w'.cell? a = some v :=
  (World.cell?_of_block (h.block a.block (World.block_lt_of_cell? w a hc) hn)).trans hc

theorem Chg.set {w w' : World} {S : Nat → Prop} (h : Chg w w' S) {g i : Nat} (x : Value) (hg : S g ∨ w.heap.size ≤ g) : Chg w (w'.setCell ⟨g, i, none⟩ x) S :=
  ⟨h.os, h.tape, h.output, by have := h.size; simpa [World.setCell] using this, fun k hk hn => (heap_setCell_other w' ⟨g, i, none⟩ k _ (by
    rcases hg with hg | hg
    · exact fun e => hn (by simp at e; rw [e]; exact hg)
    · simp; omega)).trans (h.block k hk hn)⟩
theorem Chg.alloc {w w' : World} {S : Nat → Prop} (h : Chg w w' S) (o : Obj) : Chg w (w'.alloc o) S :=
  h.trans (Chg.of_grown (World.grownBy_alloc w' o none) (fun _ => False) (fun k e => by cases e)) (fun k e => e.elim)
end Go.Proofs.YtimjplkehlgelaaGreat
