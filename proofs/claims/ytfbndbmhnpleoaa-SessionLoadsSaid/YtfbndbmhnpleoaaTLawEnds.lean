/- The law SessionEnds. -/
import Derived.Test.YtfbndbmhnpleoaaTPlay
import Derived.Test.YtfbndbmhnpleoaaTLawChecks
namespace Go.Proofs.Ytfbndbmhnpleoaa
set_option linter.unusedVariables false
set_option linter.unusedSimpArgs false
open Go.RowKit

theorem StAt.all {w : World} {g o : Nat} {x : St} (h : StAt w g o x) : w.cell? ⟨g, o, none⟩ = some (.int .i64 x.s) ∧ w.cell? ⟨g, o + 1, none⟩ = some (.int .i64 x.q) ∧ w.cell? ⟨g, o + 2, none⟩ = some (.int .i64 x.a) ∧ w.cell? ⟨g, o + 3, none⟩ = some (.int .i64 x.r.er) ∧ w.cell? ⟨g, o + 4, none⟩ = some (.int .i64 x.r.rs) ∧ w.cell? ⟨g, o + 5, none⟩ = some (.int .i64 x.r.gn) ∧ w.cell? ⟨g, o + 6, none⟩ = some (.int .i64 x.r.ad) ∧ w.cell? ⟨g, o + 7, none⟩ = some (.int .i64 x.r.sa) ∧ w.cell? ⟨g, o + 8, none⟩ = some (.int .i64 x.r.ot) ∧ w.cell? ⟨g, o + 9, none⟩ = some (.int .i64 x.r.cy) ∧ w.cell? ⟨g, o + 10, none⟩ = some (.int .i64 x.r.fu) :=
  ⟨h 0 _ rfl, h 1 _ rfl, h 2 _ rfl, h 3 _ rfl, h 4 _ rfl, h 5 _ rfl, h 6 _ rfl, h 7 _ rfl, h 8 _ rfl, h 9 _ rfl, h 10 _ rfl⟩
theorem StAt.box (w : World) (x : St) : StAt (w.alloc (.cells #[.int .i64 x.s, .int .i64 x.q, .int .i64 x.a, .int .i64 x.r.er, .int .i64 x.r.rs, .int .i64 x.r.gn, .int .i64 x.r.ad, .int .i64 x.r.sa, .int .i64 x.r.ot, .int .i64 x.r.cy, .int .i64 x.r.fu] 51)) w.heap.size 0 x := fun k u hk => by
  rw [World.cell?_alloc_new, Nat.zero_add]
  unfold stC at hk
  simpa using hk
theorem OwnT.chg {B : Nat} {w w' : World} {S : Nat → Prop} {v : Value} {l : List St} (h : OwnT B w v l) (hc : Chg w w' S) (hn : ∀ k, B ≤ k → ¬ S k) : OwnT B w' v l := by
  obtain ⟨hl, h | ⟨g, cap, cur, e, hB, hh, r⟩⟩ := h
  · exact ⟨hl, .inl h⟩
  · exact ⟨hl, .inr ⟨g, cap, cur, e, hB, (hc.block g (Array.getElem?_eq_some_iff.1 hh).1 (hn g hB)).trans hh, r⟩⟩
/-- Those that stay, of the first k. -/
def stayT (L : List St) (f : Int) (k : Nat) : List St := expT (L.take k) f
theorem stayT_yes {L : List St} {f : Int} {k : Nat} {x : St} (h : L[k]? = some x) (hf : f ≤ x.a) : stayT L f (k + 1) = stayT L f k ++ [x] := by
  unfold stayT expT
  rw [List.take_add_one, h, List.filter_append]
  simp [hf]
theorem stayT_no {L : List St} {f : Int} {k : Nat} {x : St} (h : L[k]? = some x) (hf : ¬ f ≤ x.a) : stayT L f (k + 1) = stayT L f k := by
  unfold stayT expT
  rw [List.take_add_one, h, List.filter_append]
  simp [hf]
theorem stayT_len (L : List St) (f : Int) (k : Nat) : (stayT L f k).length ≤ L.length := Nat.le_trans (List.length_filter_le _ _) (by rw [List.length_take]; omega)
theorem askT_gone {L : List St} (h : TbOk L) {f : Int} {x : St} (hx : x ∈ L) (hf : ¬ f ≤ x.a) (m : Int) : askT (expT L f) x.s m = (rp0, false, 80) := by
  unfold askT expT
  rw [fndT_filter h.rises.ids, fndT_of h.rises.ids hx, Option.filter_some, if_neg (by simp [hf])]

theorem equalT_true {w : World} {v1 v2 : Value} {l : List St} (h1 : Sts w v1 l) (h2 : Sts w v2 l) : Calls Try.prog 24 #[v1, v2] w fun e w' => e = .returned (.bool true) ∧ Below w.heap.size w w' :=
  (equalSt_any h1 h2).mono fun e w' ⟨he, q, hw⟩ => ⟨by rw [he, decide_eq_true rfl], by rw [hw]; exact bdrew w q⟩

end Go.Proofs.Ytfbndbmhnpleoaa
