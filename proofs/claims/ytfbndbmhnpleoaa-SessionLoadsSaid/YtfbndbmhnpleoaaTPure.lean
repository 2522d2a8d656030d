/- A table of sessions, plainly: its sessions by rising numbers, and what each call makes of them. -/
import Derived.Test.YtfbndbmhnpleoaaBase
namespace Go.Proofs.Ytfbndbmhnpleoaa
set_option linter.unusedVariables false
set_option linter.unusedSimpArgs false

/-- A reply. -/
structure Rp where
  er : Int
  rs : Int
  gn : Int
  ad : Int
  sa : Int
  ot : Int
  cy : Int
  fu : Int
deriving DecidableEq
/-- A session. -/
structure St where
  s : Int
  q : Int
  a : Int
  r : Rp
deriving DecidableEq
def rp0 : Rp := ⟨0, 0, 0, 0, 0, 0, 0, 0⟩
def st0 : St := ⟨0, 0, 0, rp0⟩

/-- A number of a session that may be. -/
def n40 (n : Int) : Bool := decide (0 ≤ n) && decide (n ≤ 1099511627776)
theorem n40_iff {n : Int} : n40 n = true ↔ 0 ≤ n ∧ n ≤ 1099511627776 := by unfold n40; simp
def Rp.nums (r : Rp) : List Int := [r.er, r.rs, r.gn, r.ad, r.sa, r.ot, r.cy, r.fu]
def St.nums (x : St) : List Int := [x.s, x.q, x.a, x.r.er, x.r.rs, x.r.gn, x.r.ad, x.r.sa, x.r.ot, x.r.cy, x.r.fu]
/-- A reply may be kept. -/
def Rp.ok (r : Rp) : Bool := r.nums.all n40
/-- A session may be told. -/
def St.tell (x : St) : Bool := x.nums.all n40
theorem St.nums_eq (x : St) : x.nums = [x.s, x.q, x.a] ++ x.r.nums := rfl
theorem St.tell_eq (x : St) : x.tell = (n40 x.s && n40 x.q && n40 x.a && x.r.ok) := by
  unfold St.tell Rp.ok
  rw [St.nums_eq, List.all_append]
  simp [Bool.and_assoc]
def c40 (n : Int) : Bool := decide (1 ≤ n) && decide (n ≤ 1099511627776)
theorem c40_iff {n : Int} : c40 n = true ↔ 1 ≤ n ∧ n ≤ 1099511627776 := by unfold c40; simp
/-- A session may stand in a table. -/
def St.ok (x : St) : Bool := c40 x.s && c40 x.a && x.tell
theorem St.ok_iff {x : St} : x.ok = true ↔ (1 ≤ x.s ∧ x.s ≤ 1099511627776) ∧ (0 ≤ x.q ∧ x.q ≤ 1099511627776) ∧ (1 ≤ x.a ∧ x.a ≤ 1099511627776) ∧ x.r.ok = true := by
  unfold St.ok
  rw [St.tell_eq]
  simp only [Bool.and_eq_true, c40_iff, n40_iff]
  constructor
  · rintro ⟨⟨h1, h2⟩, ⟨⟨h3, h4⟩, h5⟩, h6⟩
    exact ⟨h1, h4, h2, h6⟩
  · rintro ⟨h1, h2, h3, h4⟩
    exact ⟨⟨h1, h3⟩, ⟨⟨⟨by omega, h1.2⟩, h2⟩, by omega, h3.2⟩, h4⟩

/-- The session of a number. -/
def fndT (L : List St) (k : Int) : Option St := L.find? fun x => x.s == k
theorem fndT_mem {L : List St} {k : Int} {x : St} (h : fndT L k = some x) : x ∈ L ∧ x.s = k := by
  have h1 := List.find?_some h
  exact ⟨List.mem_of_find?_eq_some h, by simpa using h1⟩
theorem fndT_none {L : List St} {k : Int} : fndT L k = none ↔ ∀ x ∈ L, x.s ≠ k := by
  unfold fndT
  rw [List.find?_eq_none]
  simp
def RisesT (L : List St) : Prop := L.Pairwise fun x y => x.s < y.s
theorem RisesT.ids {L : List St} (h : RisesT L) : L.Pairwise fun x y => x.s ≠ y.s := List.Pairwise.imp (S := fun x y : St => x.s ≠ y.s) (fun {a b} (h : a.s < b.s) => by omega) (show L.Pairwise fun x y => x.s < y.s from h)
theorem fndT_of {L : List St} (h : L.Pairwise fun x y => x.s ≠ y.s) {x : St} (hx : x ∈ L) : fndT L x.s = some x := by
  induction L with
  | nil => simp at hx
  | cons y r ih =>
    rw [List.pairwise_cons] at h
    unfold fndT
    rw [List.find?_cons]
    rcases List.mem_cons.1 hx with rfl | hx
    · simp
    · have := h.1 x hx
      simp only [beq_eq_false_iff_ne.2 this]
      exact ih h.2 hx

/-- A session put in its place. -/
def insT : List St → St → List St
  | [], x => [x]
  | y :: r, x => if x.s < y.s then x :: y :: r else if x.s = y.s then x :: r else y :: insT r x
theorem fndT_ins (L : List St) (x : St) (k : Int) : fndT (insT L x) k = if x.s = k then some x else fndT L k := by
  induction L with
  | nil =>
    unfold insT fndT
    by_cases h : x.s = k <;> simp [h]
  | cons y r ih =>
    unfold insT
    by_cases h1 : x.s < y.s
    · rw [if_pos h1]
      unfold fndT
      by_cases h : x.s = k <;> simp [List.find?_cons, h]
    · rw [if_neg h1]
      by_cases h2 : x.s = y.s
      · rw [if_pos h2]
        unfold fndT
        by_cases h : x.s = k
        · simp [List.find?_cons, h]
        · have : ¬ y.s = k := by omega
          simp [List.find?_cons, h, this]
      · rw [if_neg h2]
        unfold fndT at ih ⊢
        rw [List.find?_cons, List.find?_cons]
        by_cases h : y.s = k
        · have : ¬ x.s = k := by omega
          simp [h, this]
        · simp only [beq_eq_false_iff_ne.2 h]
          exact ih
theorem mem_insT {L : List St} {x y : St} (h : y ∈ insT L x) : y = x ∨ (y ∈ L ∧ y.s ≠ x.s) ∨ y ∈ L := by
  induction L with
  | nil =>
    unfold insT at h
    simp at h
    exact .inl h
  | cons z r ih =>
    unfold insT at h
    split at h
    · rcases List.mem_cons.1 h with h | h
      · exact .inl h
      · exact .inr (.inr h)
    · split at h
      · rcases List.mem_cons.1 h with h | h
        · exact .inl h
        · exact .inr (.inr (List.mem_cons_of_mem _ h))
      · rcases List.mem_cons.1 h with h | h
        · exact .inr (.inr (by rw [h]; exact List.mem_cons_self ..))
        · rcases ih h with h | ⟨h, _⟩ | h
          · exact .inl h
          · exact .inr (.inr (List.mem_cons_of_mem _ h))
          · exact .inr (.inr (List.mem_cons_of_mem _ h))
theorem mem_insT' {L : List St} {x y : St} (h : y ∈ insT L x) : y = x ∨ y ∈ L := by
  rcases mem_insT h with h | ⟨h, _⟩ | h
  · exact .inl h
  · exact .inr h
  · exact .inr h
theorem RisesT.ins {L : List St} (h : RisesT L) (x : St) : RisesT (insT L x) := by
  induction L with
  | nil => exact List.pairwise_singleton _ _
  | cons y r ih =>
    obtain ⟨h1, h2⟩ := List.pairwise_cons.1 h
    unfold insT
    split
    · rename_i hlt
      refine List.pairwise_cons.2 ⟨fun z hz => ?_, h⟩
      rcases List.mem_cons.1 hz with rfl | hz
      · exact hlt
      · have := h1 z hz; omega
    · split
      · rename_i heq
        exact List.pairwise_cons.2 ⟨fun z hz => by have := h1 z hz; omega, h2⟩
      · refine List.pairwise_cons.2 ⟨fun z hz => ?_, ih h2⟩
        rcases mem_insT' hz with rfl | hz
        · omega
        · exact h1 z hz
theorem length_insT {L : List St} (h : RisesT L) (x : St) : (insT L x).length = L.length + if (fndT L x.s).isSome then 0 else 1 := by
  induction L with
  | nil => rfl
  | cons y r ih =>
    obtain ⟨h1, h2⟩ := List.pairwise_cons.1 h
    unfold insT
    split
    · rename_i hlt
      have : fndT (y :: r) x.s = none := fndT_none.2 fun z hz => by
        rcases List.mem_cons.1 hz with rfl | hz
        · omega
        · have := h1 z hz; omega
      rw [this]
      rfl
    · split
      · rename_i heq
        have : fndT (y :: r) x.s = some y := by
          unfold fndT
          rw [List.find?_cons]
          simp [heq]
        rw [this]
        rfl
      · rename_i hne
        have : fndT (y :: r) x.s = fndT r x.s := by
          unfold fndT
          rw [List.find?_cons]
          have : ¬ y.s = x.s := fun e => hne e.symm
          simp only [beq_eq_false_iff_ne.2 this]
        rw [this, List.length_cons, ih h2, List.length_cons]
        omega

/-- What the sessions of a table keep. -/
structure TbOk (L : List St) : Prop where
  rises : RisesT L
  len : L.length ≤ 8
  ok : ∀ x ∈ L, x.ok = true
theorem TbOk.nil : TbOk [] := ⟨List.Pairwise.nil, by simp, fun x h => by simp at h⟩

def openT (L : List St) (at_ : Int) : Int × List St :=
  if (fndT L at_).isSome || !c40 at_ then (1, L) else if 8 ≤ L.length then (7, L) else (0, insT L ⟨at_, 0, at_, rp0⟩)
def askT (L : List St) (s q : Int) : Rp × Bool × Int := match fndT L s with
  | none => (rp0, false, 80)
  | some x => if q < x.q ∨ q < 1 then (rp0, false, 81) else if q = x.q then (x.r, true, 0) else if x.q + 1 < q then (rp0, false, 82) else (rp0, false, 0)
def keepT (L : List St) (s q a : Int) (r : Rp) : Int × List St :=
  if (askT L s q).2.2 ≠ 0 then ((askT L s q).2.2, L) else if (askT L s q).2.1 then (81, L) else if (⟨s, q, a, r⟩ : St).ok then (0, insT L ⟨s, q, a, r⟩) else (1, L)
def expT (L : List St) (f : Int) : List St := L.filter fun x => f ≤ x.a
theorem rp0_ok : rp0.ok = true := by decide
theorem TbOk.ins {L : List St} (h : TbOk L) {x : St} (hx : x.ok = true) (hl : (fndT L x.s).isSome = true ∨ L.length < 8) : TbOk (insT L x) :=
  ⟨h.rises.ins x, by
    rw [length_insT h.rises]
    have := h.len
    split
    · omega
    · rename_i hn
      rcases hl with hl | hl
      · exact absurd hl hn
      · omega, fun y hy => by
    rcases mem_insT' hy with rfl | hy
    · exact hx
    · exact h.ok y hy⟩
theorem TbOk.open_ {L : List St} (h : TbOk L) (at_ : Int) : TbOk (openT L at_).2 := by
  unfold openT
  split
  · exact h
  · rename_i h1
    split
    · exact h
    · have h1' : c40 at_ = true := by
        cases hc : c40 at_
        · simp [hc] at h1
        · rfl
      have h2 := c40_iff.1 h1'
      exact h.ins (St.ok_iff.2 ⟨h2, by dsimp only; omega, h2, rp0_ok⟩) (.inr (by omega))
theorem askT_some {L : List St} {s q : Int} (h : (askT L s q).2.2 ≠ 80) : ∃ x, fndT L s = some x := by
  unfold askT at h
  cases hf : fndT L s with
  | none => rw [hf] at h; simp at h
  | some x => exact ⟨x, rfl⟩
theorem TbOk.keep {L : List St} (h : TbOk L) (s q a : Int) (r : Rp) : TbOk (keepT L s q a r).2 := by
  unfold keepT
  split
  · exact h
  · rename_i h0
    split
    · exact h
    · split
      · rename_i hx
        obtain ⟨x, hx'⟩ := askT_some (L := L) (s := s) (q := q) (by omega)
        exact h.ins hx (.inl (by dsimp only; rw [hx']; rfl))
      · exact h
theorem TbOk.exp {L : List St} (h : TbOk L) (f : Int) : TbOk (expT L f) :=
  ⟨h.rises.sublist List.filter_sublist, Nat.le_trans (List.length_filter_le _ _) h.len, fun x hx => h.ok x (List.mem_filter.1 hx).1⟩
theorem fndT_filter {L : List St} (h : L.Pairwise fun x y => x.s ≠ y.s) (p : St → Bool) (k : Int) : fndT (L.filter p) k = (fndT L k).filter p := by
  cases hf : fndT L k with
  | none =>
    rw [fndT_none] at hf
    exact fndT_none.2 fun x hx => hf x (List.mem_filter.1 hx).1
  | some x =>
    obtain ⟨hx, rfl⟩ := fndT_mem hf
    cases hp : p x
    · rw [Option.filter_some, hp]
      refine fndT_none.2 fun y hy e => ?_
      obtain ⟨hy1, hy2⟩ := List.mem_filter.1 hy
      have h1 := fndT_of h hy1
      rw [e, hf] at h1
      injection h1 with h1
      rw [h1, hy2] at hp
      cases hp
    · rw [Option.filter_some, hp]
      exact fndT_of (h.sublist List.filter_sublist) (List.mem_filter.2 ⟨hx, hp⟩)
end Go.Proofs.Ytfbndbmhnpleoaa
