/- Numbers, texts and flags as bytes: what the program's functions and the document's own make of them. -/
import Derived.Test.YtokmmmpijcbknaaBase
import Derived.Test.YtokmmmpijcbknaaMath
import Derived.WalkLawsBesides
import Derived.WalkSpells
import Derived.Outline
import Derived.Laws.IdiomAt

import Derived.Deep.LoopGhost
namespace Go.Proofs.Ytokmmmpijcbknaa
open Go.RowKit

theorem Try.info5 : (Try.prog.info? 5).map (fun i => (i.zero, i.size, i.bytes)) = some (some (.int .u8 0), 1, 1) := by kernel_rfl

def lim : Nat := 9223372036854775808

theorem cell_new1 (w : World) (u : Value) (t : TypeId) : ∀ j x, ([u] : List Value)[j]? = some x → (w.alloc (.cells #[u] t)).cell? ((⟨w.heap.size, 0, none⟩ : Addr).add j) = some x := cell_one_new _ _ _

theorem cell_new2 (w : World) (n : Nat) (hn : w.heap.size = n) (u : Value) (t : TypeId) : ∀ j x, ([u] : List Value)[j]? = some x → (w.alloc (.cells #[u] t)).cell? ((⟨n, 0, none⟩ : Addr).add j) = some x := by
  subst hn
  exact cell_one_new _ _ _

theorem one_cell1 (k : IntKind) (x : Int) : ∀ u ∈ [Value.int k x], u.oneCell' = true := by intro u hu; simp at hu; subst hu; rfl

theorem below_row {B : Nat} {a w w' : World} {v : Value} {e : TypeId} {n : Nat} {xs : List Value} (h : Below B a w) (hg : w.grownBy w' v.ownBlock) (hB : B ≤ w.heap.size) (hown : w.ownsRow B e 1 v n xs) : Below B a w' :=
  h.grown hg hB fun k hk => (hown.lt k hk).1

end Go.Proofs.Ytokmmmpijcbknaa
