/- What a refused call leaves, plainly. -/
import Derived.Test.YthcakinkioniaabDPlain5
namespace Go.Proofs.Ythcakinkioniaab
open Go.RowKit

/-- A call that is refused while the power is on changes nothing; for want of room it is refused only if there is none. -/
structure Refused (st : Dk) (b : List UInt8) (r : Nat × Dk) : Prop where
  same : r.1 ≠ 0 → r.1 ≠ 22 → r.2 = st
  full : r.1 = 7 → st.down = false ∧ (st.room < st.used + b.length ∨ 4096 ≤ st.seen.length)
theorem perf_codes (st : Dk) (d : Deed) (b : List UInt8) : Refused st b (st.perf d) := by
  unfold Dk.perf
  split
  · exact ⟨fun _ h => absurd rfl h, fun h => by simp at h⟩
  · exact ⟨fun h _ => absurd rfl h, fun h => by simp at h⟩
theorem refused_of {st : Dk} {b : List UInt8} {r : Nat} (h : r ≠ 7) : Refused st b (r, st) := ⟨fun _ _ => rfl, fun h1 => absurd h1 h⟩
theorem rdy_cases (d : Bool) (k : List UInt8) : rdy d k ≠ 7 := by
  unfold rdy
  split
  · simp
  · split
    · simp
    · simp
theorem rdy_up {d : Bool} {k : List UInt8} (h : ¬ rdy d k ≠ 0) : d = false := rdy_down (Decidable.not_not.1 h)
theorem write_refused (st : Dk) (k : List UInt8) (a : Int) (b : List UInt8) : Refused st b (st.write k a b) := by
  unfold Dk.write
  split
  · exact refused_of (rdy_cases _ _)
  · rename_i hr
    have hd := rdy_up hr
    split
    · split
      · exact refused_of (by simp)
      · split
        · rename_i h4
          exact ⟨fun _ _ => rfl, fun _ => ⟨hd, .inr h4⟩⟩
        · split
          · rename_i h5
            exact ⟨fun _ _ => rfl, fun _ => ⟨hd, .inl h5⟩⟩
          · exact perf_codes _ _ _
    · split
      · exact refused_of (by simp)
      · split
        · rename_i h5
          exact ⟨fun _ _ => rfl, fun _ => ⟨hd, .inl h5⟩⟩
        · exact perf_codes _ _ _
theorem step_refused (st : Dk) (x : Rec) : Refused st x.b (st.step x) := by
  unfold Dk.step Dk.doer
  split
  · unfold Dk.trim
    split
    · exact refused_of (rdy_cases _ _)
    · split
      · exact refused_of (by simp)
      · split
        · exact refused_of (by simp)
        · exact perf_codes _ _ _
  · split
    · unfold Dk.move
      split
      · exact refused_of (rdy_cases _ _)
      · split
        · exact refused_of (by simp)
        · split
          · exact refused_of (by simp)
          · exact perf_codes _ _ _
    · split
      · unfold Dk.drop
        split
        · exact refused_of (rdy_cases _ _)
        · split
          · exact refused_of (by simp)
          · exact perf_codes _ _ _
      · split
        · unfold Dk.sync
          split
          · exact refused_of (by simp)
          · split
            · exact ⟨fun _ h => absurd rfl h, fun h => by simp at h⟩
            · exact ⟨fun h _ => absurd rfl h, fun h => by simp at h⟩
        · split
          · unfold Dk.arm
            split
            · exact refused_of (by simp)
            · exact ⟨fun h _ => absurd rfl h, fun h => by simp at h⟩
          · split
            · unfold Dk.crash
              split
              · exact refused_of (by simp)
              · exact ⟨fun h _ => absurd rfl h, fun h => by simp at h⟩
            · split
              · exact ⟨fun h _ => absurd rfl h, fun h => by simp at h⟩
              · exact write_refused _ _ _ _
theorem perf_room (st : Dk) (d : Deed) : (st.perf d).2.room = st.room := by
  unfold Dk.perf
  split <;> rfl
theorem step_room (st : Dk) (x : Rec) : (st.step x).2.room = st.room := by
  unfold Dk.step Dk.doer
  split
  · unfold Dk.trim
    split
    · rfl
    · split
      · rfl
      · split
        · rfl
        · exact perf_room _ _
  · split
    · unfold Dk.move
      split
      · rfl
      · split
        · rfl
        · split
          · rfl
          · exact perf_room _ _
    · split
      · unfold Dk.drop
        split
        · rfl
        · split
          · rfl
          · exact perf_room _ _
      · split
        · unfold Dk.sync
          split
          · rfl
          · split <;> rfl
        · split
          · unfold Dk.arm
            split <;> rfl
          · split
            · unfold Dk.crash
              split <;> rfl
            · split
              · rfl
              · unfold Dk.write
                split
                · rfl
                · split
                  · split
                    · rfl
                    · split
                      · rfl
                      · split
                        · rfl
                        · exact perf_room _ _
                  · split
                    · rfl
                    · split
                      · rfl
                      · exact perf_room _ _
/-- What is used while the power is on. -/
def Dk.usedN (st : Dk) : Nat := if st.down then 0 else st.used
theorem usedN_le {st : Dk} (ok : st.Ok) : st.usedN ≤ st.room := by
  unfold Dk.usedN
  split
  · exact Nat.zero_le _
  · exact ok.room

section
variable {w0 w : World} {K : Nat → Prop} {g1 g2 : Nat} {s1 s2 : Dk}
theorem used_two (h : TwoK w0 K w g1 s1 g2 s2) : Calls Try.prog 18 #[.pointer (some ⟨g1, 0, none⟩)] w fun e w' => e = .returned (.int .i64 (s1.usedN : Nat)) ∧ w = w' := by
  obtain ⟨S1, C1, S2, C2, h1, _⟩ := h
  exact used_call h1
theorem used_own (h : Own1 w0 g1 s1 w) : Calls Try.prog 18 #[.pointer (some ⟨g1, 0, none⟩)] w fun e w' => e = .returned (.int .i64 (s1.usedN : Nat)) ∧ w = w' := by
  obtain ⟨S1, C1, h1, _⟩ := h
  exact used_call h1
end
end Go.Proofs.Ythcakinkioniaab
