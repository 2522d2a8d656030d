/- Calls done one behind the other. -/
import Derived.Test.YtfbndbmhnpleoaaTAwake
import Derived.Test.YtfbndbmhnpleoaaTArg
namespace Go.Proofs.Ytfbndbmhnpleoaa
set_option linter.unusedVariables false
set_option linter.unusedSimpArgs false
open Go.RowKit

/-- Which call. -/
def kindT (op : Int) : Int := wrap64 ((IntKind.u64.wrap op).tmod 6)
def stepT (L : List St) (x : Dt) : List St := if kindT x.op == 0 then (openT L x.a).2 else if kindT x.op == 4 then expT L x.a else (keepT L x.s x.q x.a x.r).2
def playT (l : List Dt) : List St := l.foldl stepT []
theorem playT_snoc {l : List Dt} {k : Nat} {x : Dt} (h : l[k]? = some x) : playT (l.take (k + 1)) = stepT (playT (l.take k)) x := by
  unfold playT
  rw [List.take_add_one, h]
  simp
theorem stepT_ok {L : List St} (h : TbOk L) (x : Dt) : TbOk (stepT L x) := by
  unfold stepT
  split
  · exact h.open_ _
  · split
    · exact h.exp _
    · exact h.keep _ _ _ _
theorem DtAt.all {w : World} {g o : Nat} {x : Dt} (h : DtAt w g o x) : w.cell? ⟨g, o, none⟩ = some (.int .i64 x.op) ∧ w.cell? ⟨g, o + 1, none⟩ = some (.int .i64 x.s) ∧ w.cell? ⟨g, o + 2, none⟩ = some (.int .i64 x.q) ∧ w.cell? ⟨g, o + 3, none⟩ = some (.int .i64 x.a) ∧ w.cell? ⟨g, o + 4, none⟩ = some (.int .i64 x.r.er) ∧ w.cell? ⟨g, o + 5, none⟩ = some (.int .i64 x.r.rs) ∧ w.cell? ⟨g, o + 6, none⟩ = some (.int .i64 x.r.gn) ∧ w.cell? ⟨g, o + 7, none⟩ = some (.int .i64 x.r.ad) ∧ w.cell? ⟨g, o + 8, none⟩ = some (.int .i64 x.r.sa) ∧ w.cell? ⟨g, o + 9, none⟩ = some (.int .i64 x.r.ot) ∧ w.cell? ⟨g, o + 10, none⟩ = some (.int .i64 x.r.cy) ∧ w.cell? ⟨g, o + 11, none⟩ = some (.int .i64 x.r.fu) :=
  ⟨h 0 _ rfl, h 1 _ rfl, h 2 _ rfl, h 3 _ rfl, h 4 _ rfl, h 5 _ rfl, h 6 _ rfl, h 7 _ rfl, h 8 _ rfl, h 9 _ rfl, h 10 _ rfl, h 11 _ rfl⟩
def PlayPost (w : World) (L : List St) (e : Ending) (w' : World) : Prop := e = .returned (.pointer (some ⟨w.heap.size + 1, 0, none⟩)) ∧ TbOwn w (w.heap.size + 1) w.heap.size w' L

end Go.Proofs.Ytfbndbmhnpleoaa
