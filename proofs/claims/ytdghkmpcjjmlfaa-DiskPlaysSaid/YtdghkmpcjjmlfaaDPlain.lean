/- Files, plainly: names with bytes, rising. -/
namespace Go.Proofs.Ytdghkmpcjjmlfaa

abbrev Fl := List (List UInt8 × List UInt8)

def get : Fl → List UInt8 → Option (List UInt8)
  | [], _ => none
  | p :: r, x => if p.1 = x then some p.2 else get r x
def del (F : Fl) (x : List UInt8) : Fl := F.filter fun p => decide (p.1 ≠ x)
def lay : Fl → List UInt8 → List UInt8 → Fl
  | [], x, b => [(x, b)]
  | p :: r, x, b => if x < p.1 then (x, b) :: p :: r else p :: lay r x b
def put (F : Fl) (x b : List UInt8) : Fl := lay (del F x) x b
def Rises (F : Fl) : Prop := F.Pairwise fun p q => p.1 < q.1

theorem nm_irrefl (x : List UInt8) : ¬ x < x := List.lt_irrefl x
theorem nm_trans {x y z : List UInt8} (h : x < y) (h' : y < z) : x < z := List.lt_trans h h'
theorem nm_total {x y : List UInt8} (h : ¬ x < y) (hne : x ≠ y) : y < x := by
  rcases Std.Trichotomous.rel_or_eq_or_rel_swap (r := (· < · : List UInt8 → List UInt8 → Prop)) (a := x) (b := y) with h1 | h1 | h1
  · exact absurd h1 h
  · exact absurd h1 hne
  · exact h1

theorem get_none_iff {F : Fl} {x : List UInt8} : get F x = none ↔ ∀ p ∈ F, p.1 ≠ x := by
  induction F with
  | nil => simp [get]
  | cons p r ih =>
    unfold get
    by_cases h : p.1 = x
    · simp [h]
    · rw [if_neg h, ih]
      simp [h]

theorem get_mem {F : Fl} {x b : List UInt8} (h : get F x = some b) : (x, b) ∈ F := by
  induction F with
  | nil => simp [get] at h
  | cons p r ih =>
    unfold get at h
    by_cases hp : p.1 = x
    · rw [if_pos hp] at h
      injection h with h
      subst hp h
      exact List.mem_cons_self ..
    · rw [if_neg hp] at h
      exact List.mem_cons_of_mem _ (ih h)

theorem get_of_mem {F : Fl} (hr : Rises F) {x b : List UInt8} (h : (x, b) ∈ F) : get F x = some b := by
  induction F with
  | nil => simp at h
  | cons p r ih =>
    obtain ⟨h1, h2⟩ := List.pairwise_cons.1 hr
    unfold get
    rcases List.mem_cons.1 h with rfl | h
    · simp
    · have hlt := h1 _ h
      rw [if_neg (fun e => nm_irrefl x (by rw [← e] at hlt ⊢; exact hlt))]
      exact ih h2 h

theorem get_del (F : Fl) (x y : List UInt8) : get (del F x) y = if x = y then none else get F y := by
  induction F with
  | nil => simp [del, get]
  | cons p r ih =>
    unfold del at ih ⊢
    by_cases hp : p.1 = x
    · rw [List.filter_cons_of_neg (by simp [hp]), ih]
      by_cases hxy : x = y
      · simp [hxy]
      · rw [if_neg hxy, if_neg hxy]
        conv => rhs; unfold get
        rw [if_neg (by rw [hp]; exact hxy)]
    · rw [List.filter_cons_of_pos (by simp [hp])]
      unfold get
      by_cases hy : p.1 = y
      · rw [if_pos hy, if_neg (fun e => hp (by rw [e, hy])), if_pos hy]
      · rw [if_neg hy, ih, if_neg hy]

theorem get_lay (F : Fl) (x b y : List UInt8) (hx : get F x = none) : get (lay F x b) y = if x = y then some b else get F y := by
  induction F with
  | nil => simp [lay, get]
  | cons p r ih =>
    have hpx : p.1 ≠ x := get_none_iff.1 hx p (List.mem_cons_self ..)
    have hrx : get r x = none := get_none_iff.2 fun q hq => get_none_iff.1 hx q (List.mem_cons_of_mem _ hq)
    unfold lay
    by_cases h : x < p.1
    · rw [if_pos h]
      conv => lhs; unfold get
    · rw [if_neg h]
      unfold get
      rw [ih hrx]
      by_cases hy : p.1 = y
      · rw [if_pos hy, if_pos hy, if_neg (fun e => hpx (by rw [e, hy]))]
      · rw [if_neg hy, if_neg hy]

theorem get_put (F : Fl) (x b y : List UInt8) : get (put F x b) y = if x = y then some b else get F y := by
  unfold put
  rw [get_lay _ _ _ _ (by rw [get_del, if_pos rfl]), get_del]
  by_cases h : x = y
  · simp [h]
  · simp [h]

theorem Rises.del {F : Fl} (h : Rises F) (x : List UInt8) : Rises (del F x) := List.Pairwise.filter _ h

theorem mem_lay {F : Fl} {x b : List UInt8} {q : List UInt8 × List UInt8} (h : q ∈ lay F x b) : q = (x, b) ∨ q ∈ F := by
  induction F with
  | nil => simp [lay] at h; exact .inl h
  | cons p r ih =>
    unfold lay at h
    by_cases hx : x < p.1
    · rw [if_pos hx] at h
      rcases List.mem_cons.1 h with h | h
      · exact .inl h
      · exact .inr h
    · rw [if_neg hx] at h
      rcases List.mem_cons.1 h with h | h
      · exact .inr (by rw [h]; exact List.mem_cons_self ..)
      · rcases ih h with h | h
        · exact .inl h
        · exact .inr (List.mem_cons_of_mem _ h)

theorem Rises.lay {F : Fl} (h : Rises F) {x b : List UInt8} (hx : get F x = none) : Rises (lay F x b) := by
  induction F with
  | nil => simp [Rises, Go.Proofs.Ytdghkmpcjjmlfaa.lay]
  | cons p r ih =>
    obtain ⟨h1, h2⟩ := List.pairwise_cons.1 h
    have hpx : p.1 ≠ x := get_none_iff.1 hx p (List.mem_cons_self ..)
    have hrx : get r x = none := get_none_iff.2 fun q hq => get_none_iff.1 hx q (List.mem_cons_of_mem _ hq)
    unfold Go.Proofs.Ytdghkmpcjjmlfaa.lay
    by_cases hlt : x < p.1
    · rw [if_pos hlt]
      refine List.pairwise_cons.2 ⟨fun q hq => ?_, h⟩
      rcases List.mem_cons.1 hq with rfl | hq
      · exact hlt
      · exact nm_trans hlt (h1 q hq)
    · rw [if_neg hlt]
      refine List.pairwise_cons.2 ⟨fun q hq => ?_, ih h2 hrx⟩
      rcases mem_lay hq with rfl | hq
      · exact nm_total hlt hpx.symm
      · exact h1 q hq

theorem Rises.put {F : Fl} (h : Rises F) (x b : List UInt8) : Rises (put F x b) := (h.del x).lay (by rw [get_del, if_pos rfl])

/-- Rising files that have the same are the same. -/
theorem Rises.ext {F G : Fl} (hF : Rises F) (hG : Rises G) (h : ∀ x, get F x = get G x) : F = G := by
  induction F generalizing G with
  | nil =>
    cases G with
    | nil => rfl
    | cons q s =>
      have := h q.1
      simp [get] at this
  | cons p r ih =>
    obtain ⟨f1, f2⟩ := List.pairwise_cons.1 hF
    cases G with
    | nil =>
      have := h p.1
      simp [get] at this
    | cons q s =>
      obtain ⟨g1, g2⟩ := List.pairwise_cons.1 hG
      have hpq : p.1 = q.1 := by
        have e1 := h p.1
        have e2 := h q.1
        by_cases hne : p.1 = q.1
        · exact hne
        · exfalso
          have hm1 : (p.1, p.2) ∈ q :: s := get_mem (by rw [← e1]; simp [get])
          have hm2 : (q.1, q.2) ∈ p :: r := get_mem (by rw [e2]; simp [get])
          rcases List.mem_cons.1 hm1 with e | hm1
          · exact hne (by rw [← e])
          · rcases List.mem_cons.1 hm2 with e | hm2
            · exact hne (by rw [← e])
            · exact nm_irrefl _ (nm_trans (f1 _ hm2) (g1 _ hm1))
      have hv : p.2 = q.2 := by
        have e1 := h p.1
        simp [get, hpq] at e1
        exact e1
      have e : p = q := Prod.ext hpq hv
      subst e
      rw [ih f2 g2 fun x => ?_]
      have e1 := h x
      unfold get at e1
      by_cases hx : p.1 = x
      · have n1 : get r x = none := get_none_iff.2 fun y hy e2 => nm_irrefl x (by have := f1 y hy; rw [e2, hx] at this; exact this)
        have n2 : get s x = none := get_none_iff.2 fun y hy e2 => nm_irrefl x (by have := g1 y hy; rw [e2, hx] at this; exact this)
        rw [n1, n2]
      · rw [if_neg hx, if_neg hx] at e1
        exact e1

theorem length_lay (F : Fl) (x b : List UInt8) : (lay F x b).length = F.length + 1 := by
  induction F with
  | nil => rfl
  | cons p r ih =>
    unfold lay
    split
    · rfl
    · simp [ih]

theorem length_del {F : Fl} (h : Rises F) (x : List UInt8) : (del F x).length + (if (get F x).isSome then 1 else 0) = F.length := by
  induction F with
  | nil => rfl
  | cons p r ih =>
    obtain ⟨h1, h2⟩ := List.pairwise_cons.1 h
    have ih := ih h2
    unfold del at ih ⊢
    unfold get
    by_cases hp : p.1 = x
    · rw [List.filter_cons_of_neg (by simp [hp]), if_pos hp]
      have hn : get r x = none := get_none_iff.2 fun y hy e => nm_irrefl x (by have := h1 y hy; rw [e, hp] at this; exact this)
      rw [hn] at ih
      simp at ih ⊢
      omega
    · rw [List.filter_cons_of_pos (by simp [hp]), if_neg hp, List.length_cons, List.length_cons]
      omega

theorem length_put {F : Fl} (h : Rises F) (x b : List UInt8) : (put F x b).length = if (get F x).isSome then F.length else F.length + 1 := by
  unfold put
  rw [length_lay]
  have := length_del h x
  split <;> simp_all <;> omega

/-- How many bytes all files have. -/
def total (F : Fl) : Nat := (F.map fun p => p.2.length).sum
end Go.Proofs.Ytdghkmpcjjmlfaa
