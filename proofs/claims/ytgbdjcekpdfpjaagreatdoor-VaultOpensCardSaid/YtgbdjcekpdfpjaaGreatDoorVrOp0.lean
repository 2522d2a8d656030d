import Derived.Test.YtgbdjcekpdfpjaaGreatDoorVg
set_option linter.unusedVariables false
set_option linter.unusedSimpArgs false
namespace Go.Proofs.YtgbdjcekpdfpjaaGreatDoor
open Go.RowKit
theorem readB_chk {b : List UInt8} {s : Sn} (h : readB 7 b = some s) : s.chk = 0 := by
 unfold readB at h
 split at h
 ·cases h
 ·split at h
  ·rename_i hc
   injection h with h
   exact h ▸ hc.1
  ·cases h
def newB (t : Dk) (s : Sn) (n : List UInt8) : Sn := match stateL n (t.readB n) with
 | some s' => if s.ix < s'.ix then s' else s
 | none => s
def bestL (t : Dk) (l : List (List UInt8)) : Sn := l.foldl (newB t) sn0
theorem bestL_snoc (t : Dk) (l : List (List UInt8)) (n : List UInt8) : bestL t (l ++ [n]) = newB t (bestL t l) n := by unfold bestL; rw [List.foldl_append]; rfl
theorem bestL_take {t : Dk} {l : List (List UInt8)} {k : Nat} {n : List UInt8} (h : l[k]? = some n) : bestL t (l.take (k + 1)) = newB t (bestL t (l.take k)) n := by
 rw [List.take_add_one, h]
 exact bestL_snoc _ _ _
theorem stateL_isV {n b : List UInt8} {s : Sn} (h : stateL n b = some s) : s.chk = 0 ∧ s.name = n ∧ isV n = true := by
 obtain ⟨h1, h2, _⟩ := stateL_some h
 exact ⟨h1, h2, h2 ▸ (name_chk h1).2.2⟩
theorem findN_filter (t : Dk) : ∀ l : List (List UInt8), findN t (l.filter isV) = findN t l
 | [] => rfl
 | n :: r => by
  have ih := findN_filter t r
  by_cases hv : isV n = true
  ·rw [List.filter_cons_of_pos hv]
   unfold findN
   rw [ih]
  ·rw [List.filter_cons_of_neg hv, ih]
   cases hs : stateL n (t.readB n) with
   | none => rw [findN_skip hs]
   | some s => exact absurd (stateL_isV hs).2.2 hv
theorem findN_mem {t : Dk} {b : Sn} : ∀ {l : List (List UInt8)}, findN t l = some b → b.chk = 0 ∧ b.name ∈ l
 | [], h => by simp [findN] at h
 | n :: r, h => by
  cases hs : stateL n (t.readB n) with
  | none =>
   rw [findN_skip hs] at h
   obtain ⟨h1, h2⟩ := findN_mem h
   exact ⟨h1, List.mem_cons_of_mem _ h2⟩
  | some s =>
   rw [findN_take hs] at h
   injection h with h
   subst h
   obtain ⟨h1, h2, _⟩ := stateL_isV hs
   exact ⟨h1, h2 ▸ List.mem_cons_self ..⟩
theorem ix_lt {a b : Sn} (ha : a.chk = 0) (hb : b.chk = 0) (h : a.name < b.name) : a.ix < b.ix := by
 have h1 := chk_ix ha
 have h2 := chk_ix hb
 rw [(name_chk ha).1, (name_chk hb).1] at h
 rcases Int.lt_or_le a.ix b.ix with hl | hl
 ·exact hl
 ·rcases Int.lt_or_eq_of_le hl with hl | hl
  ·exact absurd (nm_trans h (nameL_lt (by omega) hl h1.2)) (nm_irrefl _)
  ·rw [hl] at h; exact absurd h (nm_irrefl _)
theorem best_rev (t : Dk) : ∀ r : List (List UInt8), r.Pairwise (fun a b => b < a) → r.foldr (fun n s => newB t s n) sn0 = (findN t r).getD sn0
 | [], _ => rfl
 | n :: r, h => by
  obtain ⟨h1, h2⟩ := List.pairwise_cons.1 h
  have ih := best_rev t r h2
  rw [List.foldr_cons, ih]
  cases hs : stateL n (t.readB n) with
  | none =>
   rw [findN_skip hs]
   unfold newB
   rw [hs]
  | some s =>
   rw [findN_take hs]
   obtain ⟨k1, k2, _⟩ := stateL_isV hs
   have hlt : ((findN t r).getD sn0).ix < s.ix := by
    cases hf : findN t r with
    | none => have := chk_ix k1; show (0 : Int) < s.ix; omega
    | some b =>
     obtain ⟨b1, b2⟩ := findN_mem hf
     exact ix_lt b1 k1 (k2 ▸ h1 _ b2)
   unfold newB
   rw [hs]
   show (if _ then _ else _) = s
   rw [if_pos hlt]
theorem names_rise {t : Dk} (h : Rises t.seen) : t.names.Pairwise (fun a b => a < b) := by
 unfold Dk.names
 split
 ·exact List.Pairwise.nil
 ·rw [List.pairwise_map]
  exact h
theorem best_found {t : Dk} (h : Rises t.seen) : bestL t t.names = t.found := by
 unfold Dk.found bestL
 rw [← List.filter_reverse, findN_filter, List.foldl_eq_foldr_reverse]
 exact best_rev t _ (List.pairwise_reverse.2 (names_rise h))
theorem found_good (t : Dk) : t.found = sn0 ∨ t.found.chk = 0 := by
 unfold Dk.found
 cases h : findN t (t.names.filter isV).reverse with
 | none => exact .inl rfl
 | some b => exact .inr (findN_mem h).1
end Go.Proofs.YtgbdjcekpdfpjaaGreatDoor
