/- The document's Get, plainly. -/
import Derived.Test.YtllpminhcfbkcabSpNext
import Derived.Test.YtllpminhcfbkcabSpPut
namespace Go.Proofs.Ytllpminhcfbkcab
set_option linter.unusedVariables false
set_option linter.unusedSimpArgs false

/-- How long the span behind a place took, as it is read; and where it began. -/
def longS (l : List UInt8) (st : Nat × Nat) : Nat := (nx l (nx l (nx l (nx l (nx l st).2).2).2).2).1
def startS (l : List UInt8) (st : Nat × Nat) : Nat := (nx l (nx l (nx l (nx l st).2).2).2).1
def fineS (l : List UInt8) (st : Nat × Nat) : Prop := (nextS l st).2.2 = 0 ∧ longS l st ≤ 1099511627776 ∧ startS l st ≤ 1099511627776
instance (l : List UInt8) (st : Nat × Nat) : Decidable (fineS l st) := by unfold fineS; exact inferInstance

/-- So many spans behind a place, each of which was read. -/
def refG (l : List UInt8) : Nat → Nat × Nat → Option (List Sp)
  | 0, st => some []
  | k + 1, st => if fineS l st then (refG l k (nextS l st).2).map fun r => (nextS l st).1 :: r else none
/-- What the document's Get says, some spans being read. -/
def refT (l : List UInt8) (r : List Sp) (k : Nat) (st : Nat × Nat) : List Sp × Nat :=
  match refG l k st with
  | none => ([], 30)
  | some r' => if putB (r ++ r') = (l, 0) then (r ++ r', 0) else ([], 30)
def refP (l : List UInt8) : List Sp × Nat := refT l [] (nx l (0, 0)).1 (nx l (0, 0)).2
theorem refT_ok {l : List UInt8} {r : List Sp} {k : Nat} {st : Nat × Nat} (h : fineS l st) : refT l r (k + 1) st = refT l (r ++ [(nextS l st).1]) k (nextS l st).2 := by
  unfold refT
  rw [refG, if_pos h]
  cases refG l k (nextS l st).2 with
  | none => rfl
  | some q => simp
theorem refT_bad {l : List UInt8} {r : List Sp} {k : Nat} {st : Nat × Nat} (h : ¬ fineS l st) : refT l r (k + 1) st = ([], 30) := by
  unfold refT
  rw [refG, if_neg h]
theorem refT_end {l : List UInt8} {r : List Sp} {st : Nat × Nat} : refT l r 0 st = if putB r = (l, 0) then (r, 0) else ([], 30) := by
  unfold refT
  rw [refG]
  simp

theorem long_eq (l : List UInt8) (st : Nat × Nat) : (nextS l st).1.s = startS l st ∧ (nextS l st).1.e = sumW (startS l st) (longS l st) := ⟨rfl, rfl⟩
theorem long_lt {l : List UInt8} {st : Nat × Nat} (h : st.1 ≤ l.length) : longS l st < 9223372036854775808 ∧ startS l st < 9223372036854775808 :=
  ⟨(nx_le (nx_le (nx_le (nx_le (nx_le h).1).1).1).1).2, (nx_le (nx_le (nx_le (nx_le h).1).1).1).2⟩

theorem fine_of {l : List UInt8} {a : Nat} {x : Sp} {r : List UInt8} (hl : a ≤ l.length) (hx : x.ok = true) (h : l.drop a = x.bytes ++ r) : fineS l (a, 0) := by
  have hN := nextS_bytes hl hx h
  have hk := (Sp.ok_iff x).1 hx
  have hlt := long_lt (l := l) (st := (a, 0)) hl
  obtain ⟨h1, h2⟩ := long_eq l (a, 0)
  rw [hN] at h1 h2
  dsimp only at h1 h2
  have s1 := hk.s1
  have s2 := hk.s2
  have e2 := hk.e2
  refine ⟨by rw [hN], ?_, by omega⟩
  by_cases hov : startS l (a, 0) + longS l (a, 0) < 9223372036854775808
  · rw [sumW_small hov] at h2
    omega
  · have := sumW_big hlt.2 hlt.1 (by omega)
    omega

theorem refG_bytes {l : List UInt8} : ∀ (r : List Sp) {a : Nat} {z : List UInt8}, a ≤ l.length → (∀ x ∈ r, Sp.ok x = true) → l.drop a = (r.map Sp.bytes).flatten ++ z → refG l r.length (a, 0) = some r
  | [], a, z, _, _, _ => rfl
  | x :: r, a, z, ha, hok, h => by
    have hx := hok x (by simp)
    rw [List.map_cons, List.flatten_cons, List.append_assoc] at h
    have hlen := congrArg List.length h
    rw [List.length_drop, List.length_append, List.length_append] at hlen
    have hN := nextS_bytes ha hx h
    rw [List.length_cons, refG, if_pos (fine_of ha hx h), hN]
    dsimp only
    rw [refG_bytes r (by omega) (fun y hy => hok y (by simp [hy])) (drop_more h)]
    rfl

theorem putB_iff {r : List Sp} {l : List UInt8} : putB r = (l, 0) ↔ (∀ x ∈ r, Sp.ok x = true) ∧ encL r = l := by
  unfold putB
  split
  · rename_i h
    rw [List.all_eq_true] at h
    simp only [Prod.mk.injEq, and_true]
    exact ⟨fun e => ⟨h, e⟩, fun e => e.2⟩
  · rename_i h
    constructor
    · intro e
      simp at e
    · rintro ⟨h1, _⟩
      exact absurd (List.all_eq_true.2 h1) h

theorem refP_is (l : List UInt8) : GetIs l (refP l).1 (refP l).2 := by
  have hbad : refP l = ([], 30) → GetIs l (refP l).1 (refP l).2 := by
    intro h
    rw [h]
    refine .inr ⟨rfl, rfl, fun m hm hok e => ?_⟩
    subst e
    have h0 : (encL m).drop 0 = digits m.length ++ (m.map Sp.bytes).flatten := rfl
    have h1 := nx_digits hm h0
    have g1 := drop_more h0
    have hl : (encL m).length = (digits m.length).length + (m.map Sp.bytes).flatten.length := by unfold encL; rw [List.length_append]
    unfold refP at h
    rw [h1] at h
    dsimp only at h
    unfold refT at h
    rw [refG_bytes m (z := []) (by omega) hok (by rw [g1, List.append_nil])] at h
    dsimp only at h
    rw [List.nil_append, if_pos (putB_iff.2 ⟨hok, rfl⟩)] at h
    simp at h
  cases hg : refG l (nx l (0, 0)).1 (nx l (0, 0)).2 with
  | none =>
    apply hbad
    unfold refP refT
    rw [hg]
  | some r =>
    by_cases hp : putB r = (l, 0)
    · have : refP l = (r, 0) := by
        unfold refP refT
        rw [hg]
        dsimp only
        rw [List.nil_append, if_pos hp]
      rw [this]
      exact .inl ⟨rfl, (putB_iff.1 hp).1, (putB_iff.1 hp).2⟩
    · apply hbad
      unfold refP refT
      rw [hg]
      dsimp only
      rw [List.nil_append, if_neg hp]
theorem get_len {l : List UInt8} {r : List Sp} {e : Nat} (h : GetIs l r e) (hlen : ∀ m : List Sp, m.length ≤ (encL m).length) : r.length ≤ l.length := by
  rcases h with ⟨_, _, rfl⟩ | ⟨_, rfl, _⟩
  · exact hlen r
  · exact Nat.zero_le _
end Go.Proofs.Ytllpminhcfbkcab
