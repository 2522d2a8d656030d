/- The document's ring: as many steps up as there are spans are enough. -/
import Derived.Test.YtbbdijnkgkabbaaFRing
namespace Go.Proofs.Ytbbdijnkgkabbaa
set_option linter.unusedVariables false
set_option linter.unusedSimpArgs false
open Go.RowKit

theorem filter_lt {α : Type} {p q : α → Bool} (h : ∀ x, p x = true → q x = true) : ∀ {l : List α} {u : α}, u ∈ l → q u = true → p u = false → (l.filter p).length < (l.filter q).length
  | x :: r, u, hu, hq, hp => by
    have hle : (r.filter p).length ≤ (r.filter q).length := by
      clear hu
      induction r with
      | nil => simp
      | cons y s ih =>
        rw [List.filter_cons, List.filter_cons]
        cases hpy : p y with
        | false => cases q y <;> simp <;> omega
        | true => rw [h y hpy]; simp; omega
    rw [List.filter_cons, List.filter_cons]
    rcases List.mem_cons.1 hu with rfl | hu
    · rw [hp, hq]
      simp
      omega
    · have ih := filter_lt h hu hq hp
      cases hpx : p x with
      | false => cases q x <;> simp <;> omega
      | true => rw [h x hpx]; simp; omega

/-- How many spans there are of a rank below k. -/
def cntB (L : List Sp) (r : Int → Nat) (k : Nat) : Nat := (L.filter fun x => decide (r x.i < k)).length
theorem cntB_lt {L : List Sp} {r : Int → Nat} {u : Sp} (hu : u ∈ L) {j k : Nat} (hj : j ≤ r u.i) (hk : r u.i < k) : cntB L r j < cntB L r k :=
  filter_lt (fun x hx => by rw [decide_eq_true_eq] at *; omega) hu (decide_eq_true hk) (decide_eq_false (by omega))

/-- The document's way up. -/
def loopR (L : List Sp) (id : Int) : Nat → Int → Bool
  | 0, a => a == id
  | n + 1, a => match fnd L a with
    | none => a == id
    | some u => if u.p = id then true else loopR L id n u.p
theorem loopR_ups {L : List Sp} {r : Int → Nat} (hr : Ranks L r) {id : Int} : ∀ (n : Nat) (a : Int), cntB L r (rk L r a) ≤ n → a ≠ id → loopR L id n a = ups L r id a := by
  intro n
  induction n with
  | zero =>
    intro a hn ha
    cases hf : fnd L a with
    | none => rw [ups_out hf]; unfold loopR; exact beq_eq_false_iff_ne.2 ha
    | some u =>
      rw [rk_some hf] at hn
      have := cntB_lt (r := r) (fnd_mem hf).1 (Nat.zero_le _) (show r u.i < r u.i + 1 by omega)
      omega
  | succ n ih =>
    intro a hn ha
    unfold loopR
    cases hf : fnd L a with
    | none => rw [ups_out hf]; exact beq_eq_false_iff_ne.2 ha
    | some u =>
      simp only
      by_cases hp : u.p = id
      · rw [if_pos hp, ups_hit hf hp]
      · rw [if_neg hp, ups_on hr hf hp]
        refine ih u.p ?_ hp
        rw [rk_some hf] at hn
        have hle : rk L r u.p ≤ r u.i := by
          cases hv : fnd L u.p with
          | none => rw [rk_none hv]; omega
          | some v => rw [rk_some hv]; have := hr u (fnd_mem hf).1 v hv; omega
        have := cntB_lt (r := r) (fnd_mem hf).1 hle (show r u.i < r u.i + 1 by omega)
        omega
theorem loopR_ring {L : List Sp} (hr : NoRing L) {id a : Int} (ha : a ≠ id) : loopR L id L.length a = ring L id a := by
  obtain ⟨r, hr⟩ := hr
  rw [← ups_ring hr]
  exact loopR_ups hr _ _ (List.length_filter_le _ _) ha
end Go.Proofs.Ytbbdijnkgkabbaa
