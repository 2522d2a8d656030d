/- What the laws of a forest say, plainly: what adding counts and keeps. -/
import Derived.Test.YtimjplkehlgelaaGreatFTree
namespace Go.Proofs.YtimjplkehlgelaaGreat
set_option linter.unusedVariables false
set_option linter.unusedSimpArgs false
open Go.RowKit

def cn0 : Cn := ⟨0, 0, 0, 0, 0⟩
def Cn.plus (a b : Cn) : Cn := ⟨a.add + b.add, a.same + b.same, a.other + b.other, a.cyc + b.cyc, a.full + b.full⟩
theorem Cn.plus0 (a : Cn) : a.plus cn0 = a := rfl
theorem putP_from (L : List Sp) (c : Cn) (x : Sp) : putP L c x = ((putP L cn0 x).1, c.plus (putP L cn0 x).2) := by
  unfold putP
  cases fnd L x.i with
  | some o => simp only; split <;> rfl
  | none =>
    simp only
    by_cases h1 : 64 ≤ L.length
    · rw [if_pos h1, if_pos h1]; rfl
    · rw [if_neg h1, if_neg h1]
      by_cases h2 : ring L x.i x.p = true
      · rw [if_pos h2, if_pos h2]; rfl
      · rw [if_neg h2, if_neg h2]; rfl
theorem Cn.plus_assoc (a b c : Cn) : (a.plus b).plus c = a.plus (b.plus c) := by
  unfold Cn.plus
  simp only [Nat.add_assoc]
theorem Cn.zero_plus (a : Cn) : cn0.plus a = a := by
  unfold Cn.plus cn0
  simp only [Nat.zero_add]
theorem putsP_from : ∀ (l : List Sp) (L : List Sp) (c : Cn), putsP L c l = ((putsP L cn0 l).1, c.plus (putsP L cn0 l).2)
  | [], L, c => rfl
  | x :: r, L, c => by
    unfold putsP
    rw [putP_from L c x, putsP_from r (putP L cn0 x).1 (c.plus (putP L cn0 x).2), putsP_from r (putP L cn0 x).1 (putP L cn0 x).2]
    simp only [Cn.plus_assoc]
theorem putP_len (L : List Sp) (c : Cn) (x : Sp) : (putP L c x).1.length + c.add = L.length + (putP L c x).2.add := by
  unfold putP
  cases fnd L x.i with
  | some o => simp only; split <;> rfl
  | none =>
    simp only
    by_cases h1 : 64 ≤ L.length
    · rw [if_pos h1]
    · rw [if_neg h1]
      by_cases h2 : ring L x.i x.p = true
      · rw [if_pos h2]
      · rw [if_neg h2]
        simp only [List.length_append, List.length_singleton]
        omega
theorem putsP_len : ∀ (l : List Sp) (L : List Sp) (c : Cn), (putsP L c l).1.length + c.add = L.length + (putsP L c l).2.add
  | [], L, c => by unfold putsP; rfl
  | x :: r, L, c => by
    unfold putsP
    have h1 := putP_len L c x
    have h2 := putsP_len r (putP L c x).1 (putP L c x).2
    omega
theorem putP_full (L : List Sp) (c : Cn) (x : Sp) : (putP L c x).2.full = c.full ∨ 64 ≤ (putP L c x).1.length := by
  unfold putP
  cases fnd L x.i with
  | some o => simp only; split <;> exact .inl rfl
  | none =>
    simp only
    by_cases h1 : 64 ≤ L.length
    · rw [if_pos h1]; exact .inr h1
    · rw [if_neg h1]
      by_cases h2 : ring L x.i x.p = true
      · rw [if_pos h2]; exact .inl rfl
      · rw [if_neg h2]; exact .inl rfl
theorem putP_mono (L : List Sp) (c : Cn) (x : Sp) : L.length ≤ (putP L c x).1.length := by
  rcases putP_same (L := L) (c := c) (x := x) with e | ⟨_, _, _, e⟩
  · rw [e]; exact Nat.le_refl _
  · rw [e, List.length_append]; exact Nat.le_add_right _ _
theorem putsP_mono : ∀ (l : List Sp) (L : List Sp) (c : Cn), L.length ≤ (putsP L c l).1.length
  | [], L, c => Nat.le_refl _
  | x :: r, L, c => Nat.le_trans (putP_mono L c x) (by unfold putsP; exact putsP_mono r _ _)
theorem putsP_full : ∀ (l : List Sp) (L : List Sp) (c : Cn), (putsP L c l).2.full = c.full ∨ 64 ≤ (putsP L c l).1.length
  | [], L, c => .inl rfl
  | x :: r, L, c => by
    unfold putsP
    rcases putP_full L c x with h | h
    · rcases putsP_full r (putP L c x).1 (putP L c x).2 with h2 | h2
      · exact .inl (h2.trans h)
      · exact .inr h2
    · exact .inr (Nat.le_trans h (putsP_mono r _ _))

/-- What comes of a call of Add. -/
noncomputable def addP (tr : Int) (L l : List Sp) : List Sp := if l.all (fun x => x.ok && decide (x.t = tr)) = true then (putsP L cn0 l).1 else L
theorem ok_ne {x : Sp} (h : x.ok = true) : x.p ≠ x.i := ((Sp.ok_iff x).1 h).ne
theorem addP_ok {tr : Int} {L l : List Sp} (h : FoOk tr L) : FoOk tr (addP tr L l) := by
  unfold addP
  split
  · rename_i hl
    refine putsP_ok l h fun x hx => ?_
    have := List.all_eq_true.1 hl x hx
    rw [Bool.and_eq_true, decide_eq_true_eq] at this
    exact ⟨this.1, ok_ne this.1, this.2⟩
  · exact h
/-- Those of some spans that can be added, one by one. -/
noncomputable def growP (l : List Sp) : List Sp := l.foldl (fun L x => addP 1 L [x]) []
theorem foOk_nil (tr : Int) : FoOk tr [] := ⟨List.Pairwise.nil, noRing_nil, fun x hx => by simp at hx, by simp⟩
theorem growP_ok' : ∀ (l L : List Sp), FoOk 1 L → FoOk 1 (l.foldl (fun L x => addP 1 L [x]) L)
  | [], L, h => h
  | x :: r, L, h => by rw [List.foldl_cons]; exact growP_ok' r _ (addP_ok h)
theorem growP_ok (l : List Sp) : FoOk 1 (growP l) := growP_ok' l [] (foOk_nil 1)

/-! ## The order of what a forest has -/
theorem FoOk.perm {tr : Int} {L M : List Sp} (h : FoOk tr L) (hp : M.Perm L) : FoOk tr M := by
  have hids : M.Pairwise fun x y => x.i ≠ y.i := hp.symm.pairwise h.ids (fun {x y} hxy e => hxy e.symm)
  have hfnd : ∀ k u, fnd M k = some u → fnd L k = some u := fun k u hu => by
    obtain ⟨h1, h2⟩ := fnd_mem hu
    rw [← h2]
    exact fnd_of h.ids (hp.mem_iff.1 h1)
  obtain ⟨r, hr⟩ := h.rises
  exact ⟨hids, ⟨r, fun x hx u hu => hr x (hp.mem_iff.1 hx) u (hfnd _ _ hu)⟩, fun x hx => h.ok x (hp.mem_iff.1 hx), by rw [hp.length_eq]; exact h.len⟩
theorem FoOk.sort {tr : Int} {L : List Sp} (h : FoOk tr L) : FoOk tr (sortS L) := h.perm (sortS_perm L)
theorem FoOk.tidy {tr : Int} {L : List Sp} (h : FoOk tr L) : ∃ r, Tidy L r := by
  obtain ⟨r, hr⟩ := h.rises
  exact ⟨r, h.ids, hr, fun x hx => ((Sp.ok_iff x).1 (h.ok x hx).1).i1⟩
theorem fnd_perm {L M : List Sp} (h : L.Pairwise fun x y => x.i ≠ y.i) (hp : M.Perm L) (k : Int) : fnd M k = fnd L k := by
  have hids : M.Pairwise fun x y => x.i ≠ y.i := hp.symm.pairwise h (fun {x y} hxy e => hxy e.symm)
  cases hf : fnd L k with
  | none =>
    rw [fnd_none] at hf ⊢
    exact fun x hx => hf x (hp.mem_iff.1 hx)
  | some u =>
    obtain ⟨h1, h2⟩ := fnd_mem hf
    rw [← h2]
    exact fnd_of hids (hp.mem_iff.2 h1)

theorem upw_rank {P M : List Sp} {r : Int → Nat} (hr : Ranks M r) (hid : M.Pairwise fun x y => x.i ≠ y.i) (hs : ∀ y ∈ P, y ∈ M) {x : Sp} (hx : x ∈ M) : ∀ (n : Nat) (a : Int), upw P x.i n a = true → ∃ u, fnd P a = some u ∧ r x.i < r u.i
  | 0, a, h => by cases h
  | n + 1, a, h => by
    unfold upw at h
    cases hf : fnd P a with
    | none => rw [hf] at h; cases h
    | some u =>
      rw [hf] at h
      have huM := hs u (fnd_mem hf).1
      refine ⟨u, rfl, ?_⟩
      by_cases hp : u.p = x.i
      · exact hr u huM x (by rw [hp]; exact fnd_of hid hx)
      · simp only [if_neg hp] at h
        obtain ⟨v, hv, hlt⟩ := upw_rank hr hid hs hx n u.p h
        obtain ⟨hvP, hvi⟩ := fnd_mem hv
        have := hr u huM v (by rw [← hvi]; exact fnd_of hid (hs v hvP))
        omega
theorem adds_all {tr : Int} : ∀ (rest pre : List Sp) (c : Cn), FoOk tr (pre ++ rest) → putsP pre c rest = (pre ++ rest, { c with add := c.add + rest.length })
  | [], pre, c, h => by unfold putsP; rw [List.append_nil]; rfl
  | x :: rest, pre, c, h => by
    have hx : x ∈ pre ++ x :: rest := List.mem_append_right _ (List.mem_cons_self ..)
    have hn : fnd pre x.i = none := by
      rw [fnd_none]
      intro y hy
      have := (List.pairwise_append.1 h.ids).2.2 y hy x (List.mem_cons_self ..)
      exact this
    have hl : ¬ 64 ≤ pre.length := by
      have := h.len
      rw [List.length_append, List.length_cons] at this
      omega
    have hr : ring pre x.i x.p = false := by
      rw [Bool.eq_false_iff, ne_eq, ring_iff]
      rintro ⟨n, hn⟩
      obtain ⟨r, hR⟩ := h.rises
      have hs : ∀ y ∈ pre, y ∈ pre ++ x :: rest := fun y hy => List.mem_append_left _ hy
      obtain ⟨u, hu, hlt⟩ := upw_rank hR h.ids hs hx n x.p hn
      obtain ⟨huP, hui⟩ := fnd_mem hu
      have := hR x hx u (by rw [← hui]; exact fnd_of h.ids (hs u huP))
      omega
    have hput : putP pre c x = (pre ++ [x], { c with add := c.add + 1 }) := by
      unfold putP
      rw [hn]
      simp only
      rw [if_neg hl, hr]
      simp
    unfold putsP
    rw [hput]
    have h' : FoOk tr ((pre ++ [x]) ++ rest) := by rw [List.append_assoc]; exact h
    rw [adds_all rest (pre ++ [x]) _ h', List.append_assoc]
    simp only [List.length_cons, List.cons_append, List.nil_append, Prod.mk.injEq, Cn.mk.injEq, true_and, and_true]
    omega
theorem adds_again {L : List Sp} : ∀ (rest : List Sp) (c : Cn), (∀ x ∈ rest, fnd L x.i = some x) → putsP L c rest = (L, { c with same := c.same + rest.length })
  | [], c, h => rfl
  | x :: rest, c, h => by
    have hput : putP L c x = (L, { c with same := c.same + 1 }) := by
      unfold putP
      rw [h x (List.mem_cons_self ..)]
      simp
    unfold putsP
    rw [hput, adds_again rest _ fun y hy => h y (List.mem_cons_of_mem _ hy)]
    simp only [List.length_cons, Prod.mk.injEq, Cn.mk.injEq, true_and, and_true]
    omega
theorem adds_other {L : List Sp} : ∀ (rest : List Sp) (c : Cn), (∀ x ∈ rest, (fnd L x.i).isSome = true) → (putsP L c rest).1 = L ∧ (putsP L c rest).2.same + (putsP L c rest).2.other = c.same + c.other + rest.length ∧ (putsP L c rest).2.add = c.add ∧ (putsP L c rest).2.cyc = c.cyc ∧ (putsP L c rest).2.full = c.full
  | [], c, h => by unfold putsP; simp
  | x :: rest, c, h => by
    obtain ⟨o, ho⟩ := Option.isSome_iff_exists.1 (h x (List.mem_cons_self ..))
    have hput : (putP L c x).1 = L ∧ (putP L c x).2.same + (putP L c x).2.other = c.same + c.other + 1 ∧ (putP L c x).2.add = c.add ∧ (putP L c x).2.cyc = c.cyc ∧ (putP L c x).2.full = c.full := by
      unfold putP
      rw [ho]
      simp only
      split <;> (refine ⟨rfl, ?_, rfl, rfl, rfl⟩; simp only; omega)
    unfold putsP
    obtain ⟨h1, h2, h3, h4, h5⟩ := hput
    have ih := adds_other (L := L) rest (putP L c x).2 fun y hy => h y (List.mem_cons_of_mem _ hy)
    rw [h1]
    obtain ⟨g1, g2, g3, g4, g5⟩ := ih
    refine ⟨g1, ?_, g3.trans h3, g4.trans h4, g5.trans h5⟩
    rw [List.length_cons]
    omega

/-- The way up from a span, step by step, is no longer than there are spans. -/
theorem up_count {L : List Sp} {r : Int → Nat} (hr : Ranks L r) {u v : Sp} {n : Nat} (hu : u ∈ L) (hv : fnd L u.p = some v) (h : n + cntB L r (r u.i) ≤ L.length) : n + 1 + cntB L r (r v.i) ≤ L.length := by
  have h1 := hr u hu v hv
  have h2 := cntB_lt (r := r) (fnd_mem hv).1 (Nat.le_refl _) h1
  omega
end Go.Proofs.YtimjplkehlgelaaGreat
