/- The example of the laws: what is needed of it. -/
import Derived.Test.YtfedkjaollioaaaGreatS9
namespace Go.Proofs.YtfedkjaollioaaaGreat
set_option linter.unusedVariables false
set_option linter.unusedSimpArgs false
open Go.RowKit

/-- The span of the example. -/
def oneP : Sp := ⟨1, 2, 0, 5, 7, ⟨#[97]⟩⟩
theorem oneP_ok : oneP.ok = true := (Sp.ok_iff _).2 ⟨by decide, by decide, by decide, by decide, by decide, by decide, by decide, by decide, by decide, by decide, by show 1 ≤ [(97 : UInt8)].length; decide, by show [(97 : UInt8)].length ≤ 32; decide, by show [(97 : UInt8)].all okByte = true; decide⟩
theorem put1_one : put1 [] oneP = ([(1, [oneP])], ⟨1, 0, 0, 0, 0⟩) := by
  have h : fndK kP [] oneP.t = none := rfl
  unfold put1
  rw [h]
  dsimp only
  rw [if_neg (by simp), putP_nil]
  rfl
theorem ing_one : ingS [] [oneP] = [(1, [oneP])] ∧ ingC [] [oneP] = ⟨1, 0, 0, 0, 0⟩ ∧ ingE [oneP] = 0 := by
  have ha : [oneP].all Sp.ok = true := by simp [oneP_ok]
  unfold ingS ingC ingE
  rw [if_pos ha, if_pos ha, if_pos ha]
  unfold puts puts
  rw [put1_one]
  exact ⟨rfl, rfl, rfl⟩
theorem R_one {R : List Tr} (h : R.map Tr.pl = [(1, [oneP])]) : ∃ x, R = [x] ∧ x.t = 1 ∧ x.L = [oneP] := by
  match R, h with
  | [], h => simp at h
  | [x], h =>
    simp [Tr.pl] at h
    exact ⟨x, rfl, h.1, h.2⟩
  | x :: y :: r, h => simp at h
theorem endP_one : endP [oneP] = 7 := by decide
theorem ret7 {R : List Tr} (h : R.map Tr.pl = [(1, [oneP])]) : retR R 7 = R ∧ R.length = 1 := by
  obtain ⟨x, rfl, h1, h2⟩ := R_one h
  unfold retR
  simp [h2, endP_one]
theorem ret8 {R : List Tr} (h : R.map Tr.pl = [(1, [oneP])]) : retR R 8 = [] ∧ R.length = 1 := by
  obtain ⟨x, rfl, h1, h2⟩ := R_one h
  unfold retR
  simp [h2, endP_one]
theorem sort_one : sortS [oneP] = [oneP] := List.perm_singleton.1 (sortS_perm [oneP])
theorem brs_one : lookS [(1, [oneP])] 1 = [⟨0, false, oneP⟩] := by
  show brs (sortS [oneP]) = _
  rw [sort_one]
  decide
theorem img_one : 5 < (imgS [(1, [oneP])]).length := by
  have h := sortS_perm [oneP]
  have h1 : sortS [oneP] = [oneP] := List.perm_singleton.1 h
  have p := digits_pos
  unfold imgS bytesS
  simp only [List.flatMap_cons, List.flatMap_nil, List.append_nil, List.length_append]
  rw [h1]
  unfold encL
  simp only [List.map_cons, List.map_nil, List.flatten_cons, List.flatten_nil, List.append_nil, List.length_append]
  unfold Sp.bytes
  simp only [List.length_append]
  have q1 := p oneP.t.toNat
  have q2 := p oneP.i.toNat
  have q3 := p oneP.p.toNat
  have q4 := p oneP.s.toNat
  have q5 := p (oneP.e - oneP.s).toNat
  have q6 := p oneP.nl.length
  omega
set_option maxRecDepth 200000 in
set_option maxHeartbeats 1000000 in
theorem one_any (w : World) : Calls Tryz.prog 21 #[] w fun e w' => e = .returned (.agg #[.int .i64 1, .int .i64 2, .int .i64 0, .int .i64 5, .int .i64 7, .string ⟨#[97]⟩]) ∧ Below w.heap.size w w' := by
  go_enter Tryz.func21, Tryz.ntmps21
  go_wp2
  refine bodyPost_ret (v := .agg #[.int .i64 1, .int .i64 2, .int .i64 0, .int .i64 5, .int .i64 7, .string ⟨#[97]⟩]) (by
    simp [results, Tryz.results21, go_sem]) rfl ⟨rfl, ?_⟩
  exact (Below.refl w.heap.size w).alloc (Nat.le_refl _) _
end Go.Proofs.YtfedkjaollioaaaGreat
