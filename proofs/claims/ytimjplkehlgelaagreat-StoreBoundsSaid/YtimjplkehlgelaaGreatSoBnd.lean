/- Many spans of one trace: how many are left out, and why. -/
import Derived.Test.YtimjplkehlgelaaGreatSoFacts
namespace Go.Proofs.YtimjplkehlgelaaGreat
set_option linter.unusedVariables false
set_option linter.unusedSimpArgs false
open Go.RowKit

def modOfB (m : Nat) (x : Int) : Nat := (wrap64 ((IntKind.u64.wrap x).tmod m)).toNat
theorem modOfB_ok {m : Nat} (h0 : 0 < m) (hm : m ≤ 1048576) (x : Int) : (modOfB m x : Int) = wrap64 ((IntKind.u64.wrap x).tmod m) ∧ modOfB m x < m := by
  obtain ⟨y, hy⟩ : ∃ y : Nat, IntKind.u64.wrap x = y := ⟨(IntKind.u64.wrap x).toNat, by
    have h1 : 0 ≤ IntKind.u64.wrap x := by
      rw [IntKind.wrap_u64]
      omega
    omega⟩
  have h2 : (IntKind.u64.wrap x).tmod m = ((y % m : Nat) : Int) := by
    rw [hy]
    exact Int.ofNat_tmod y m
  have h4 : y % m < m := Nat.mod_lt _ h0
  have h3 : wrap64 ((y % m : Nat) : Int) = ((y % m : Nat) : Int) := by
    unfold wrap64
    omega
  unfold modOfB
  rw [h2, h3]
  omega
/-- So many spans at the top of a trace. -/
def wideS (t : Int) (m : Nat) : List Sp := (List.range m).map fun (i : Nat) => ⟨t, 1 + (i : Int), 0, 0, 0, ⟨#[97]⟩⟩
theorem wideS_succ (t : Int) (m : Nat) : wideS t (m + 1) = wideS t m ++ [⟨t, 1 + (m : Int), 0, 0, 0, ⟨#[97]⟩⟩] := by
  unfold wideS
  rw [List.range_succ, List.map_append]
  rfl
theorem wideS_len (t : Int) (m : Nat) : (wideS t m).length = m := by simp [wideS]
theorem wideS_t {t : Int} {m : Nat} {x : Sp} (hx : x ∈ wideS t m) : x.t = t := by
  unfold wideS at hx
  obtain ⟨i, hi, rfl⟩ := List.mem_map.1 hx
  rfl
theorem wideS_all {t : Int} {m : Nat} (h1 : 1 ≤ t) (h2 : t ≤ 1000) (h : m ≤ 100) : (wideS t m).all Sp.ok = true := by
  rw [List.all_eq_true]
  intro x hx
  unfold wideS at hx
  obtain ⟨i, hi, rfl⟩ := List.mem_map.1 hx
  have := List.mem_range.1 hi
  refine (Sp.ok_iff _).2 ⟨?_, ?_, ?_, ?_, ?_, ?_, ?_, ?_, ?_, ?_, ?_, ?_, ?_⟩
  all_goals first | (dsimp only; omega) | (show 1 ≤ [(97 : UInt8)].length; decide) | (show [(97 : UInt8)].length ≤ 32; decide) | (show [(97 : UInt8)].all okByte = true; decide)
theorem wideS_size {t : Int} {m : Nat} : ∀ x ∈ wideS t m, x.n.size ≤ 1000000 := by
  intro x hx
  unfold wideS at hx
  obtain ⟨i, hi, rfl⟩ := List.mem_map.1 hx
  show [(97 : UInt8)].length ≤ 1000000
  decide
/-- How many spans a trace has. -/
def lenT (S : List Pl) (t : Int) : Nat := match fndK kP S t with
  | some y => y.2.length
  | none => 0
theorem look_len {S : List Pl} (h : SoOk S) (t : Int) : (lookS S t).length = lenT S t ∧ lenT S t ≤ 64 := by
  unfold lookS lenT
  cases hf : fndK kP S t with
  | none => exact ⟨rfl, Nat.zero_le _⟩
  | some y =>
    have hy := (h.ok y (fndK_mem hf).1).1
    refine ⟨?_, hy.len⟩
    have := spsOf_len hy
    unfold spsOf at this
    rw [List.length_map] at this
    exact this
theorem put1_left {S : List Pl} (h : SoOk S) {x : Sp} (hx : x.ok = true) : ((put1 S x).2.full = 0 ∨ 32 ≤ (put1 S x).1.length ∨ 64 ≤ lenT (put1 S x).1 x.t) ∧ S.length ≤ (put1 S x).1.length ∧ lenT S x.t ≤ lenT (put1 S x).1 x.t := by
  unfold put1
  cases hf : fndK kP S x.t with
  | none =>
    dsimp only
    by_cases hl : 32 ≤ S.length
    · rw [if_pos hl]
      exact ⟨.inr (.inl hl), Nat.le_refl _, Nat.le_refl _⟩
    · rw [if_neg hl]
      dsimp only
      rw [putP_nil]
      refine ⟨.inl rfl, ?_, ?_⟩
      · rw [length_insK h.rises]; omega
      · unfold lenT
        rw [hf]
        exact Nat.zero_le _
  | some y =>
    dsimp only
    have h1 := putP_full y.2 cn0 x
    have h2 := putP_mono y.2 cn0 x
    have h3 : lenT (insK kP S (x.t, (putP y.2 cn0 x).1)) x.t = (putP y.2 cn0 x).1.length := by
      unfold lenT
      rw [fndK_ins, if_pos (show kP ((x.t, (putP y.2 cn0 x).1) : Pl) = x.t from rfl)]
    rw [h3]
    refine ⟨?_, ?_, ?_⟩
    · rcases h1 with h1 | h1
      · exact .inl h1
      · exact .inr (.inr h1)
    · rw [length_insK h.rises]; omega
    · unfold lenT
      rw [hf]
      exact h2
theorem puts_full {t : Int} : ∀ (l : List Sp) {S : List Pl}, SoOk S → (∀ x ∈ l, x.ok = true ∧ x.t = t) → ((puts S l).2.full = 0 ∨ 32 ≤ (puts S l).1.length ∨ 64 ≤ lenT (puts S l).1 t) ∧ S.length ≤ (puts S l).1.length ∧ lenT S t ≤ lenT (puts S l).1 t
  | [], S, h, hl => ⟨.inl rfl, Nat.le_refl _, Nat.le_refl _⟩
  | x :: r, S, h, hl => by
    have hx := hl x (List.mem_cons_self ..)
    have h1 := put1_left h hx.1
    rw [hx.2] at h1
    have h2 := puts_full r (put1_ok h hx.1) fun y hy => hl y (List.mem_cons_of_mem _ hy)
    show (((put1 S x).2.plus (puts (put1 S x).1 r).2).full = 0 ∨ 32 ≤ (puts (put1 S x).1 r).1.length ∨ 64 ≤ lenT (puts (put1 S x).1 r).1 t) ∧ S.length ≤ (puts (put1 S x).1 r).1.length ∧ lenT S t ≤ lenT (puts (put1 S x).1 r).1 t
    have h3 : ((put1 S x).2.plus (puts (put1 S x).1 r).2).full = (put1 S x).2.full + (puts (put1 S x).1 r).2.full := rfl
    rw [h3]
    omega
theorem ing_wide {S : List Pl} (h : SoOk S) {t : Int} (h1 : 1 ≤ t) (h2 : t ≤ 1000) {m : Nat} (hm : m ≤ 100) : ingE (wideS t m) = 0 ∧ (ingC S (wideS t m)).sum = m ∧ ((ingC S (wideS t m)).full = 0 ∨ 32 ≤ (ingS S (wideS t m)).length ∨ 64 ≤ (lookS (ingS S (wideS t m)) t).length) := by
  have ha := wideS_all h1 h2 hm
  have hok := ingS_ok h (wideS t m)
  rw [(look_len hok t).1]
  unfold ingE ingC ingS
  rw [if_pos ha, if_pos ha, if_pos ha]
  refine ⟨rfl, ?_, ?_⟩
  · rw [puts_sum, wideS_len]
  · exact (puts_full _ h fun x hx => ⟨List.all_eq_true.1 ha x hx, wideS_t hx⟩).1
end Go.Proofs.YtimjplkehlgelaaGreat
