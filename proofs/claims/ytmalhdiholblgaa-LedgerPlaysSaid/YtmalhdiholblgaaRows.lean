/-
  No cell of these rows narrows 'for every input' (looked for: loops, veiled, ifaces, maps, wideKeys, modest, calm, conditions, laid).
  DERIVED. THE GIVEN ROWS OF THIS SEAT. 3 by the template 'for every input the law returns true; each argument reads behind the call as it read before'; 0 by the template 'total and deterministic' (their statements: YtmalhdiholblgaaTotals.lean).
  GIVEN WITH THE SEED: the statements are not yours to turn. If you find one false, say at which input.
  Laid BY PROGRAM, IN A SANDBOX (cutbox-rows.mjs): the forced cells as the released guide's own fill.sh prints them over the translation f57b4dd372889c7e… (all of the seat's roots in one cut). By AI agents, Wed Nov 11 2026. No macro, syntax, notation, axiom, sorry.
-/
import Derived.Test.YtmalhdiholblgaaChecked
import GoSem.Claim
import GoSem.ClaimJoined
import GoSem.ClaimMapViews
import Derived.JoinedTies
import Derived.KernelRfl
namespace Go.Proofs.Ytmalhdiholblgaa
/- THE CELL 'sum', in the pinned program and in every row, IS THE sha256 OF THE DUMP (.gsa) THAT YtmalhdiholblgaaProg.lean LOADS. Nothing in Lean hashes anything: it is a label: what it is worth is what the hold of that sum in a sandbox is worth. -/
noncomputable def Try.pinned : Pinned := { name := "ytmalhdiholblgaa", sum := "f57b4dd372889c7ecf7826ea3aee837bec4c6af84ce1e852e2b6e28ffba3484c", checked := Try.checked }
namespace Rows
def none {H : Type} : Left H := { results := [], args := [] }

/-- 'spandrellaw11.LedgerPlays': WHATEVER THE INPUT: true; the input reads as it did. -/
def ledgerPlaysSpec : ChangeSpec := { name := "ledgerPlays", fn := fun _ => fun
  | [d1, d2] => { results := [.lit (.bool true)], args := [d1, d2] }
  | _ => none }
def ledgerPlaysRow : OpenClaim := { program := "ytmalhdiholblgaa", sum := "f57b4dd372889c7ecf7826ea3aee837bec4c6af84ce1e852e2b6e28ffba3484c", func := "spandrel/spandrellaw11.LedgerPlays", spec := "ledgerPlays", unfollowed := true, recurses := true, apart := false }
def LedgerPlaysSaid : Prop := ledgerPlaysRow.holds Try.pinned (OpenSpec.ofChange ledgerPlaysSpec)

/-- ITS FALSE NEIGHBOUR: 'it returns false'. Refute it at one input. -/
def ledgerPlaysWrong : ChangeSpec := { name := "ledgerPlays", fn := fun _ => fun
  | [d1, d2] => { results := [.lit (.bool false)], args := [d1, d2] }
  | _ => none }
def LedgerPlaysWrongFalsely : Prop := ledgerPlaysRow.holds Try.pinned (OpenSpec.ofChange ledgerPlaysWrong)

/-- 'spandrellaw11.LedgerMerged': WHATEVER THE INPUT: true; the input reads as it did. -/
def ledgerMergedSpec : ChangeSpec := { name := "ledgerMerged", fn := fun _ => fun
  | [d1, d2, d3, d4] => { results := [.lit (.bool true)], args := [d1, d2, d3, d4] }
  | _ => none }
def ledgerMergedRow : OpenClaim := { program := "ytmalhdiholblgaa", sum := "f57b4dd372889c7ecf7826ea3aee837bec4c6af84ce1e852e2b6e28ffba3484c", func := "spandrel/spandrellaw11.LedgerMerged", spec := "ledgerMerged", unfollowed := true, recurses := true, apart := false }
def LedgerMergedSaid : Prop := ledgerMergedRow.holds Try.pinned (OpenSpec.ofChange ledgerMergedSpec)

/-- ITS FALSE NEIGHBOUR: 'it returns false'. Refute it at one input. -/
def ledgerMergedWrong : ChangeSpec := { name := "ledgerMerged", fn := fun _ => fun
  | [d1, d2, d3, d4] => { results := [.lit (.bool false)], args := [d1, d2, d3, d4] }
  | _ => none }
def LedgerMergedWrongFalsely : Prop := ledgerMergedRow.holds Try.pinned (OpenSpec.ofChange ledgerMergedWrong)

/-- 'spandrellaw11.LedgerTwins': WHATEVER THE INPUT: true; the input reads as it did. -/
def ledgerTwinsSpec : ChangeSpec := { name := "ledgerTwins", fn := fun _ => fun
  | [d1, d2] => { results := [.lit (.bool true)], args := [d1, d2] }
  | _ => none }
def ledgerTwinsRow : OpenClaim := { program := "ytmalhdiholblgaa", sum := "f57b4dd372889c7ecf7826ea3aee837bec4c6af84ce1e852e2b6e28ffba3484c", func := "spandrel/spandrellaw11.LedgerTwins", spec := "ledgerTwins", unfollowed := true, recurses := true, apart := false }
def LedgerTwinsSaid : Prop := ledgerTwinsRow.holds Try.pinned (OpenSpec.ofChange ledgerTwinsSpec)

/-- ITS FALSE NEIGHBOUR: 'it returns false'. Refute it at one input. -/
def ledgerTwinsWrong : ChangeSpec := { name := "ledgerTwins", fn := fun _ => fun
  | [d1, d2] => { results := [.lit (.bool false)], args := [d1, d2] }
  | _ => none }
def LedgerTwinsWrongFalsely : Prop := ledgerTwinsRow.holds Try.pinned (OpenSpec.ofChange ledgerTwinsWrong)

/- THE SECOND FORM. 'bulk': how many values and letters a reading holds, each counted each time it is reached (what is shared counts as often as it is met; a slice's spare places count too). A statement '..UptoSaid' is the law's where the arguments, and the package variables that the reading takes, are together of bulk at most 1048576: NARROWER than '..Said'. Prove '..Said' where nothing that the law and all that it calls make is longer than what came in: it says more and counts as full. Else prove '..UptoSaid'. A law counts once. -/
mutual
def uptoBulk {H : Type} : DataW H → Nat
  | .lit (.string bytes) => bytes.length + 1
  | .lit _ => 1
  | .nil => 1
  | .ptr d => uptoBulk d + 1
  | .slice elems spare => uptoBulkAll elems + uptoBulkAll spare + 1
  | .agg parts => uptoBulkAll parts + 1
  | .iface _ d => uptoBulk d + 1
  | .map entries => uptoBulkEntries entries + 1
  | .held _ => 1
def uptoBulkAll {H : Type} : List (DataW H) → Nat
  | [] => 0
  | d :: r => uptoBulk d + uptoBulkAll r
def uptoBulkEntries {H : Type} : List (Lit × DataW H) → Nat
  | [] => 0
  | x :: r => uptoBulkEntry x + uptoBulkEntries r
def uptoBulkEntry {H : Type} : Lit × DataW H → Nat
  | (.string bytes, d) => bytes.length + uptoBulk d + 1
  | (_, d) => uptoBulk d + 1
 end
def uptoSmall : (H : Type) → List (DataW H) → Bool := fun _ ds => decide (uptoBulkAll ds ≤ 1048576)
def OpenSpec.upto (s : _root_.Go.ChangeSpec) : _root_.Go.OpenSpec := { _root_.Go.OpenSpec.ofChange s with cond := some uptoSmall }

/-- 'spandrellaw11.LedgerPlays', WHERE WHAT IT READS IS OF BULK AT MOST 1048576: true; the input reads as it did. -/
def ledgerPlaysUptoRow : OpenClaim := { program := "ytmalhdiholblgaa", sum := "f57b4dd372889c7ecf7826ea3aee837bec4c6af84ce1e852e2b6e28ffba3484c", func := "spandrel/spandrellaw11.LedgerPlays", spec := "ledgerPlays", unfollowed := true, recurses := true, apart := false, narrowed := true }
def LedgerPlaysUptoSaid : Prop := ledgerPlaysUptoRow.holds Try.pinned (OpenSpec.upto ledgerPlaysSpec)

/-- 'spandrellaw11.LedgerMerged', WHERE WHAT IT READS IS OF BULK AT MOST 1048576: true; the input reads as it did. -/
def ledgerMergedUptoRow : OpenClaim := { program := "ytmalhdiholblgaa", sum := "f57b4dd372889c7ecf7826ea3aee837bec4c6af84ce1e852e2b6e28ffba3484c", func := "spandrel/spandrellaw11.LedgerMerged", spec := "ledgerMerged", unfollowed := true, recurses := true, apart := false, narrowed := true }
def LedgerMergedUptoSaid : Prop := ledgerMergedUptoRow.holds Try.pinned (OpenSpec.upto ledgerMergedSpec)

/-- 'spandrellaw11.LedgerTwins', WHERE WHAT IT READS IS OF BULK AT MOST 1048576: true; the input reads as it did. -/
def ledgerTwinsUptoRow : OpenClaim := { program := "ytmalhdiholblgaa", sum := "f57b4dd372889c7ecf7826ea3aee837bec4c6af84ce1e852e2b6e28ffba3484c", func := "spandrel/spandrellaw11.LedgerTwins", spec := "ledgerTwins", unfollowed := true, recurses := true, apart := false, narrowed := true }
def LedgerTwinsUptoSaid : Prop := ledgerTwinsUptoRow.holds Try.pinned (OpenSpec.upto ledgerTwinsSpec)

end Rows
end Go.Proofs.Ytmalhdiholblgaa
