/- Records one behind the other, the last one cut off. -/
import Derived.Test.YthcakinkioniaaaLawRows
import Derived.Test.YthcakinkioniaaaTurn
import Derived.Test.YthcakinkioniaaaCat
namespace Go.Proofs.Ythcakinkioniaaa
open Go.RowKit

/-- The records of payloads, one behind the other. -/
def cat (ls : List (List UInt8)) : List UInt8 := (ls.map recL).flatten
theorem cat_nil : cat [] = [] := rfl
theorem cat_cons (p : List UInt8) (r : List (List UInt8)) : cat (p :: r) = recL p ++ cat r := by unfold cat; simp
theorem cat_snoc (r : List (List UInt8)) (p : List UInt8) : cat (r ++ [p]) = cat r ++ recL p := by unfold cat; simp

theorem recL_length (p : List UInt8) : (recL p).length = 1 + (digits p.length).length + p.length + 4 := by
  unfold recL
  rw [List.length_append, tailL_length, front_length]

theorem recL_form (p : List UInt8) : recL p = (93 : UInt8) :: (digits p.length ++ (p ++ tailL (crc (front p)))) := by
  unfold recL front
  simp

/-- A record that is cut off is too short. -/
theorem pick_short (p : List UInt8) (hp : p.length ≤ 65536) (I : Nat) (hI : I < (recL p).length) : pickL ((recL p).take I) = ([], 0, 2) := by
  have hl := recL_length p
  cases I with
  | zero => rfl
  | succ j =>
    have e : (recL p).take (j + 1) = (93 : UInt8) :: (digits p.length ++ (p ++ tailL (crc (front p)))).take j := by
      rw [recL_form, List.take_succ_cons]
    have hlen : ((recL p).take (j + 1)).length = j + 1 := by rw [List.length_take]; omega
    rw [e] at hlen ⊢
    rw [pickL_cons, if_neg (by decide)]
    by_cases hj : j < (digits p.length).length
    · have e2 : (digits p.length ++ (p ++ tailL (crc (front p)))).take j = (digits p.length).take j := by
        rw [List.take_append_of_le_length (by omega)]
      rw [e2, readNum_cut (by omega) hj]
      dsimp only
      unfold pickB
      rw [if_pos (by decide)]
    · obtain ⟨s, hs⟩ : ∃ s, (digits p.length ++ (p ++ tailL (crc (front p)))).take j = digits p.length ++ s := ⟨_, by rw [List.take_append, List.take_of_length_le (by omega)]⟩
      rw [hs] at hlen ⊢
      rw [readNum_digits (by omega)]
      dsimp only
      unfold pickB
      rw [if_neg (by decide), if_neg (by omega), if_pos (by omega)]

theorem torn_rows : ∀ (ls : List (List UInt8)) (I j : Nat), (∀ x ∈ ls, x.length ≤ 65536) → I ≤ (cat ls).length → j ≤ ls.length → (cat (ls.take j)).length ≤ I → (j = ls.length ∨ I < (cat (ls.take (j + 1))).length) →
    rowsL I ((cat ls).take I) = (ls.take j, (cat (ls.take j)).length) ∧ pickL (((cat ls).take I).drop (cat (ls.take j)).length) = ([], 0, 2)
  | [], I, j, _, hI, hj, h1, h2 => by
    rw [cat_nil] at hI
    obtain rfl : I = 0 := by simpa using hI
    obtain rfl : j = 0 := by simpa using hj
    exact ⟨rfl, rfl⟩
  | p :: r, I, 0, hx, hI, hj, h1, h2 => by
    have hp := hx p (by simp)
    have h3 : I < (recL p).length := by
      rcases h2 with h2 | h2
      · simp at h2
      · rw [Nat.zero_add, List.take_succ_cons, List.take_zero, cat_cons, cat_nil, List.append_nil] at h2
        exact h2
    have e : (cat (p :: r)).take I = (recL p).take I := by
      rw [cat_cons, List.take_append_of_le_length (by omega)]
    have hs := pick_short p hp I h3
    rw [e, List.take_zero, cat_nil]
    exact ⟨rowsL_stop hs (by decide), hs⟩
  | p :: r, I, j + 1, hx, hI, hj, h1, h2 => by
    have hp := hx p (by simp)
    rw [List.take_succ_cons, cat_cons, List.length_append] at h1
    have e : (cat (p :: r)).take I = recL p ++ (cat r).take (I - (recL p).length) := by
      rw [cat_cons, List.take_append, List.take_of_length_le (by omega)]
    rw [cat_cons, List.length_append] at hI
    simp only [List.length_cons] at hj
    have ih := torn_rows r (I - (recL p).length) j (fun x h => hx x (by simp [h])) (by omega) (by omega) (by omega) (by
      rcases h2 with h2 | h2
      · simp only [List.length_cons] at h2
        exact .inl (by omega)
      · rw [List.take_succ_cons, cat_cons, List.length_append] at h2
        exact .inr (by omega))
    have hg := pick_rec p hp ((cat r).take (I - (recL p).length))
    have hpos : 0 < (recL p).length := by rw [recL_length]; omega
    obtain ⟨f, hf⟩ : ∃ f, I = f + 1 := ⟨I - 1, by omega⟩
    rw [e, List.take_succ_cons, cat_cons, List.length_append]
    refine ⟨?_, ?_⟩
    · have hgo := rowsL_go (f := f) hg
      rw [← hf, List.drop_left] at hgo
      rw [hgo, rowsL_fuel f (I - (recL p).length) _ (by rw [List.length_take]; omega) (by rw [List.length_take]; omega), ih.1]
    · rw [← List.drop_drop, List.drop_left]
      exact ih.2

/-- Where the records end. -/
def endV (ls : List (List UInt8)) (i : Nat) : List Value := (List.range i).map fun j => .int .i64 ((cat (ls.take (j + 1))).length : Int)
theorem endV_length (ls : List (List UInt8)) (i : Nat) : (endV ls i).length = i := by simp [endV]
theorem endV_succ (ls : List (List UInt8)) (i : Nat) : endV ls (i + 1) = endV ls i ++ [.int .i64 ((cat (ls.take (i + 1))).length : Int)] := by
  unfold endV
  rw [List.range_succ, List.map_append]
  rfl
theorem endV_at (ls : List (List UInt8)) {i j : Nat} (h : j < i) : (endV ls i)[j]? = some (.int .i64 ((cat (ls.take (j + 1))).length : Int)) := by
  unfold endV
  rw [List.getElem?_map, List.getElem?_range h]
  rfl

theorem Try.info3 : (Try.prog.info? 3).map (fun i => (i.zero, i.size, i.bytes)) = some (some (.int .i64 0), 1, 8) := by kernel_rfl

/-- 'ends = append(ends, n)'. -/
theorem run_ends {B : Nat} {w : World} {v : Value} {k : Nat} {xs : List Value} (ho : w.ownsRow B 3 1 v k xs) (z : Int) (hB : B ≤ w.heap.size) (hs : k ≤ 1000000) :
    ∃ v' w', (Builtin.append_ #[60, 60] 60 #[v, .slice (some ⟨w.heap.size, 0, none⟩) 1 1]).run Try.prog (w.alloc (.cells #[.int .i64 z] 3)) = .ok v' w' ∧ w'.ownsRow B 3 1 v' (k + 1) (xs ++ [.int .i64 z]) ∧ (w.alloc (.cells #[.int .i64 z] 3)).grownBy w' v.ownBlock ∧ Below B w w' ∧
      (v'.ownBlock = v.ownBlock ∨ v'.ownBlock = some (w.heap.size + 1)) := by
  obtain ⟨i0, hi0, hz0, hz1, hz2⟩ := info_parts Try.info3
  have ho' := ho.alloc (.cells #[.int .i64 z] 3)
  obtain ⟨v', w', hr, h1, h2, h3, h4⟩ := run_append_own_at (P := Try.prog) (w.alloc (.cells #[.int .i64 z] 3)) B 60 60 3 i0 (.int .i64 0) 1 8 Try.underlying60 hi0 hz0 hz1 hz2 rfl (by decide) v k xs ho' ⟨w.heap.size, 0, none⟩ 1 1 [.int .i64 z] rfl
    (cell_new1 _ _ _) (fun u hu => by simp at hu; subst hu; rfl) (by simp only [maxLen]; omega) (by omega) (by simp; omega)
  have hb0 : Below B w (w.alloc (.cells #[.int .i64 z] 3)) := (Below.refl _ _).alloc hB _
  refine ⟨v', w', hr, by simpa using h1, h2, hb0.grown h2 (by simp; omega) fun k hk => (ho.lt k hk).1, ?_⟩
  rw [size_alloc'] at h4
  exact h4

theorem wpList_ends {w : World} {ops : Array Oper} {rest : List Oper} {o : Oper} {a : Act} {Q : Exit → Act → World → Prop} (hgd : o.guard = none) (s t : Operand)
    (ho : o.op = .call { callee := .builtin .append, args := #[s, t], argTypes := #[60, 60] }) (hty : o.type = 60) {B : Nat} {v : Value} {k : Nat} {xs : List Value} {z : Int}
    (hs : a.eval s = v) (ht : a.eval t = .slice (some ⟨w.heap.size, 0, none⟩) 1 1) (h : w.ownsRow B 3 1 v k xs) (hB : B ≤ w.heap.size) (hn : k ≤ 1000000)
    (hK : ∀ v' w', w'.ownsRow B 3 1 v' (k + 1) (xs ++ [.int .i64 z]) → (w.alloc (.cells #[.int .i64 z] 3)).grownBy w' v.ownBlock → Below B w w' → (v'.ownBlock = v.ownBlock ∨ v'.ownBlock = some (w.heap.size + 1)) → wpList Try.prog ops Q rest (a.put o.dst v') w') : wpList Try.prog ops Q (o :: rest) a (w.alloc (.cells #[.int .i64 z] 3)) := by
  obtain ⟨v', w', hr, h1, h2, h3, h4⟩ := run_ends h z hB hn
  exact Lib.wpList_append_run_sl _ hgd s t 60 ho v _ hs ht (by rw [hty]; exact hr) (hK v' w' h1 h2 h3 h4)
end Go.Proofs.Ythcakinkioniaaa
