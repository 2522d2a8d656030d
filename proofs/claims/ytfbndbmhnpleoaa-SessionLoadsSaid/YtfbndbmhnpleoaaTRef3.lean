/- The document's Open and Expire. -/
import Derived.Test.YtfbndbmhnpleoaaTRef2
import Derived.Test.YtfbndbmhnpleoaaTLdPure
namespace Go.Proofs.Ytfbndbmhnpleoaa
set_option linter.unusedVariables false
set_option linter.unusedSimpArgs false
open Go.RowKit

/-- What a call of the document's table says. -/
def RefPost (w : World) (gx : Nat) (v : Value) (n : Int) (L' : List St) (e : Ending) (w' : World) : Prop := e = .returned (.int .i64 n) ∧ ∃ v', RtAt w' gx v' L' ∧ (v' = v ∨ ∀ k, v'.ownBlock = some k → w.heap.size ≤ k) ∧ Chg w w' (fun k => k = gx)
theorem ref_fin {w wr : World} {gx : Nat} {v v' : Value} {L L' : List St} {n : Int} {e : Ending} (h : RtAt w gx v L) (hb : Below w.heap.size w wr) (ho : OwnT w.heap.size wr v' L') (he : e = .returned (.int .i64 n)) : RefPost w gx v n L' e (wr.setCell ⟨gx, 0, none⟩ v') := by
  have hlt := h.lt
  have hr := h.below hb
  refine ⟨he, v', ⟨?_, ?_⟩, .inr fun k hk => (ho.lt k hk).1, ?_⟩
  · have := heap_setCell_same wr gx 0 _ 62 v' hr.row
    simpa using this
  · refine (ho.grown (grown_set wr gx 0 v') ?_).mono (by omega)
    cases hv : v'.ownBlock with
    | none => exact .inl rfl
    | some k =>
      refine .inr fun e => ?_
      injection e with e
      have := (ho.lt k hv).1
      omega
  · exact (Chg.of_below hb (fun k => k = gx)).set _ (.inl rfl)
theorem ref_same {w w' : World} {gx : Nat} {v : Value} {L : List St} {n : Int} {e : Ending} (h : RtAt w gx v L) (hb : Below w.heap.size w w') (he : e = .returned (.int .i64 n)) : RefPost w gx v n L e w' :=
  ⟨he, v, h.below hb, .inl rfl, Chg.of_below hb _⟩

theorem insT_snoc : ∀ {M : List St} {x y : St}, (∃ z ∈ M, x.s < z.s) → insT (M ++ [y]) x = insT M x ++ [y]
  | [], x, y, h => by obtain ⟨z, hz, _⟩ := h; cases hz
  | m :: r, x, y, h => by
    rw [List.cons_append]
    unfold insT
    by_cases h1 : x.s < m.s
    · rw [if_pos h1, if_pos h1]
      rfl
    · rw [if_neg h1, if_neg h1]
      by_cases h2 : x.s = m.s
      · rw [if_pos h2, if_pos h2]
        rfl
      · rw [if_neg h2, if_neg h2, insT_snoc]
        · rfl
        · obtain ⟨z, hz, hlt⟩ := h
          rcases List.mem_cons.1 hz with rfl | hz
          · exact absurd hlt h1
          · exact ⟨z, hz, hlt⟩
theorem insT_mid : ∀ {M : List St} {x y : St}, (∀ z ∈ M, z.s < x.s) → x.s < y.s → insT (M ++ [y]) x = M ++ [x] ++ [y]
  | [], x, y, _, h => by
    show insT [y] x = [x, y]
    unfold insT
    rw [if_pos h]
  | m :: r, x, y, hM, h => by
    have h1 := hM m (List.mem_cons_self ..)
    rw [List.cons_append]
    unfold insT
    rw [if_neg (by omega), if_neg (by omega), insT_mid (fun z hz => hM z (List.mem_cons_of_mem _ hz)) h]
    rfl
def dnT (L : List St) (n : Int) (k : Nat) : Bool := (L.take k).any fun x => decide (n < x.s)
def opnT (L : List St) (x : St) (k : Nat) : List St := if dnT L x.s k then insT (L.take k) x else L.take k
theorem dnT_succ {L : List St} {n : Int} {k : Nat} {y : St} (h : L[k]? = some y) : dnT L n (k + 1) = (dnT L n k || decide (n < y.s)) := by
  unfold dnT
  rw [List.take_add_one, h, List.any_append]
  simp
theorem opnT_true {L : List St} {x y : St} {k : Nat} (h : L[k]? = some y) (hd : dnT L x.s k = true) : opnT L x (k + 1) = opnT L x k ++ [y] := by
  unfold opnT
  rw [dnT_succ h, hd, if_pos (by simp), if_pos rfl, List.take_add_one, h]
  refine insT_snoc ?_
  unfold dnT at hd
  obtain ⟨z, hz, hlt⟩ := List.any_eq_true.1 hd
  exact ⟨z, hz, by simpa using hlt⟩
theorem dn_all {L : List St} {x : St} {k : Nat} (hf : fndT L x.s = none) (hd : dnT L x.s k = false) : ∀ z ∈ L.take k, z.s < x.s := fun z hz => by
  have h1 := fndT_none.1 hf z (List.mem_of_mem_take hz)
  unfold dnT at hd
  have h2 := List.any_eq_false.1 hd z hz
  simp at h2
  omega
theorem opnT_ins {L : List St} {x y : St} {k : Nat} (h : L[k]? = some y) (hf : fndT L x.s = none) (hd : dnT L x.s k = false) (hlt : x.s < y.s) : opnT L x (k + 1) = opnT L x k ++ [x] ++ [y] := by
  unfold opnT
  rw [dnT_succ h, hd, if_pos (by simp [hlt]), if_neg (by simp), List.take_add_one, h]
  exact insT_mid (dn_all hf hd) hlt
theorem opnT_not {L : List St} {x y : St} {k : Nat} (h : L[k]? = some y) (hd : dnT L x.s k = false) (hlt : ¬ x.s < y.s) : opnT L x (k + 1) = opnT L x k ++ [y] := by
  unfold opnT
  rw [dnT_succ h, hd, if_neg (by simp; omega), if_neg (by simp), List.take_add_one, h]
  rfl
theorem opnT_end {L : List St} {x : St} (hf : fndT L x.s = none) : insT L x = if dnT L x.s L.length then opnT L x L.length else opnT L x L.length ++ [x] := by
  unfold opnT
  split
  · rename_i hd
    rw [List.take_length]
  · rename_i hd
    have hd' : dnT L x.s L.length = false := by simpa using hd
    have := dn_all hf hd'
    rw [List.take_length] at this ⊢
    exact insT_last this
theorem opnT_len (L : List St) (x : St) (k : Nat) (hr : RisesT L) : (opnT L x k).length ≤ L.length + 1 := by
  unfold opnT
  have h1 : (L.take k).length ≤ L.length := by rw [List.length_take]; omega
  split
  · have h2 : RisesT (L.take k) := hr.sublist (List.take_sublist k L)
    rw [length_insT h2]
    split <;> omega
  · omega

end Go.Proofs.Ytfbndbmhnpleoaa
