/- A clone. -/
import Derived.Test.YtdghkmpcjjmlfaaDNew
import Derived.Lib.ByteType
import Derived.Deep.RegionHeld3
import Derived.Test.YtdghkmpcjjmlfaaDKeep
namespace Go.Proofs.Ytdghkmpcjjmlfaa
open Go.RowKit

theorem eqlNilA (w : World) (p : Option Addr) (n c : Nat) : (binOp .eql 52 (.slice p n c) (.slice none 0 0)).run Try.prog w = .ok (.bool p.isNone) w := Lib.run_eql_slice_nil w _ _ p n c 0 0 Try.underlying52

theorem Chg.back {a b c : World} {S : Nat → Prop} (h2 : Chg b c (fun _ => False)) (h1 : Chg a b S) : Chg a c S := h1.trans h2 fun _ h => h.elim
theorem Chg.drew1 {a b : World} {S : Nat → Prop} (h : Chg a b S) : Chg a b.drew S := ⟨h.os, h.tape, h.output, h.size, h.block⟩
theorem Chg.set1 {a b : World} {B i : Nat} {x : Value} (h : Chg a b (fun k => k = B)) : Chg a (b.setCell ⟨B, i, none⟩ x) (fun k => k = B) := h.trans (chg_set _ _ _ _) fun _ h => .inl h

/-- What a clone reads of the disk. -/
def Src (g bl bs : Nat) (a : Value) (W : World) : Prop := W.cell? ⟨g, 3, none⟩ = some (.map (some bl)) ∧ W.cell? ⟨g, 4, none⟩ = some (.map (some bs)) ∧ W.cell? ⟨g, 5, none⟩ = some a

/-- A clone. -/
def Cloned (w : World) (C : Nat → Prop) (st : Dk) (e : Ending) (w' : World) : Prop := ∃ g' S', e = .returned (.pointer (some ⟨g', 0, none⟩)) ∧ DiskIs w' S' C g' st ∧ (∀ i, S' i → w.heap.size ≤ i) ∧ Below w.heap.size w w'
theorem row_zero {w : World} {B n : Nat} {v : Value} {xs : List Value} (h : w.ownsRow B 83 2 v n xs) : w.ownsRow 0 83 2 v n xs := by
  refine ⟨h.1, ?_⟩
  rcases h.2 with hn | ⟨g, cap, cur, rfl, hb, rest⟩
  · exact .inl hn
  · exact .inr ⟨g, cap, cur, rfl, Nat.zero_le _, rest⟩
theorem src_set {g B bl bs i : Nat} {a x : Value} {W : World} (h : g ≠ B) (hs : Src g bl bs a W) : Src g bl bs a (W.setCell ⟨B, i, none⟩ x) := by
  have hc := chg_set W B i x
  exact ⟨hc.cell hs.1 h, hc.cell hs.2.1 h, hc.cell hs.2.2 h⟩

end Go.Proofs.Ytdghkmpcjjmlfaa
