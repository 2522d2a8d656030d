/- The order of spans, plainly. -/
import Derived.Test.YtimjplkehlgelaaGreatSpPure
import Derived.Sort.Statements
namespace Go.Proofs.YtimjplkehlgelaaGreat
set_option linter.unusedVariables false
set_option linter.unusedSimpArgs false
open Go.Sort

/-- A comparison by a sign: it may be turned, what is like something stands as that does, and it goes on. -/
structure Cmp {α : Type} (c : α → α → Int) : Prop where
  anti : ∀ x y, c y x = -c x y
  like : ∀ x y, c x y = 0 → ∀ z, c x z = c y z
  on : ∀ x y z, c x y < 0 → c y z < 0 → c x z < 0

def lexC {α : Type} (c d : α → α → Int) (x y : α) : Int := if c x y ≠ 0 then c x y else d x y
theorem Cmp.like' {α : Type} {c : α → α → Int} (h : Cmp c) {y z : α} (e : c y z = 0) (x : α) : c x y = c x z := by
  have h1 := h.like y z e x
  have h2 := h.anti x y
  have h3 := h.anti x z
  omega
theorem Cmp.lex {α : Type} {c d : α → α → Int} (hc : Cmp c) (hd : Cmp d) : Cmp (lexC c d) where
  anti x y := by
    have h1 := hc.anti x y
    have h2 := hd.anti x y
    unfold lexC
    by_cases h : c x y = 0
    · rw [if_neg (by omega), if_neg (by omega)]
      exact h2
    · rw [if_pos (by omega), if_pos (by omega)]
      exact h1
  like x y h z := by
    unfold lexC at *
    by_cases h0 : c x y = 0
    · rw [if_neg (by omega)] at h
      rw [hc.like x y h0 z, hd.like x y h z]
    · rw [if_pos h0] at h
      exact absurd h h0
  on x y z h1 h2 := by
    unfold lexC at *
    by_cases ha : c x y = 0
    · rw [if_neg (by omega)] at h1
      have e1 := hc.like x y ha z
      by_cases hb : c y z = 0
      · rw [if_neg (by omega)] at h2
        rw [if_neg (by omega)]
        exact hd.on x y z h1 h2
      · rw [if_pos hb] at h2
        rw [if_pos (by omega)]
        omega
    · rw [if_pos ha] at h1
      by_cases hb : c y z = 0
      · have e1 := hc.like' hb x
        rw [if_pos (by omega)]
        omega
      · rw [if_pos hb] at h2
        have := hc.on x y z h1 h2
        rw [if_pos (by omega)]
        exact this

theorem cmpInt (f : Sp → Int) : Cmp fun x y => Lib.compareInt (f x) (f y) where
  anti x y := by unfold Lib.compareInt; (repeat' split) <;> omega
  like x y h z := by
    have : f x = f y := by
      unfold Lib.compareInt at h
      revert h
      (repeat' split) <;> intro h <;> omega
    rw [this]
  on x y z h1 h2 := by
    unfold Lib.compareInt at *
    revert h1 h2
    (repeat' split) <;> intro h1 h2 <;> omega

theorem compareBytes_anti : ∀ a b : List UInt8, Lib.compareBytes b a = -Lib.compareBytes a b
  | [], [] => rfl
  | [], _ :: _ => rfl
  | _ :: _, [] => rfl
  | x :: a, y :: b => by
    have ih := compareBytes_anti a b
    simp only [Lib.compareBytes]
    by_cases h1 : x < y
    · have h2 : ¬ y < x := fun h => UInt8.lt_irrefl _ (UInt8.lt_trans h h1)
      simp [h1, h2]
    · by_cases h2 : y < x
      · simp [h1, h2]
      · simp [h1, h2, ih]
theorem compareBytes_eq : ∀ {a b : List UInt8}, Lib.compareBytes a b = 0 → a = b
  | [], [], _ => rfl
  | [], _ :: _, h => by simp [Lib.compareBytes] at h
  | _ :: _, [], h => by simp [Lib.compareBytes] at h
  | x :: a, y :: b, h => by
    simp only [Lib.compareBytes] at h
    by_cases h1 : x < y
    · simp [h1] at h
    · by_cases h2 : y < x
      · simp [h1, h2] at h
      · simp only [h1, h2, if_false] at h
        have hxy : x = y := UInt8.le_antisymm (UInt8.not_lt.1 h2) (UInt8.not_lt.1 h1)
        rw [hxy, compareBytes_eq h]
theorem compareBytes_on : ∀ {a b c : List UInt8}, Lib.compareBytes a b < 0 → Lib.compareBytes b c < 0 → Lib.compareBytes a c < 0
  | [], [], _, h, _ => by simp [Lib.compareBytes] at h
  | [], _ :: _, [], _, h => by simp [Lib.compareBytes] at h
  | [], _ :: _, _ :: _, _, _ => by simp [Lib.compareBytes]
  | _ :: _, [], _, h, _ => by simp [Lib.compareBytes] at h
  | _ :: _, _ :: _, [], _, h => by simp [Lib.compareBytes] at h
  | x :: a, y :: b, z :: c, h1, h2 => by
    simp only [Lib.compareBytes] at h1 h2 ⊢
    by_cases hxy : x < y
    · by_cases hyz : y < z
      · simp [UInt8.lt_trans hxy hyz]
      · by_cases hzy : z < y
        · simp [hyz, hzy] at h2
        · have e : y = z := UInt8.le_antisymm (UInt8.not_lt.1 hzy) (UInt8.not_lt.1 hyz)
          subst e
          simp [hxy]
    · by_cases hyx : y < x
      · simp [hxy, hyx] at h1
      · have e : x = y := UInt8.le_antisymm (UInt8.not_lt.1 hyx) (UInt8.not_lt.1 hxy)
        subst e
        simp only [hxy, if_false] at h1
        by_cases hyz : x < z
        · simp [hyz]
        · by_cases hzy : z < x
          · simp [hyz, hzy] at h2
          · simp only [hyz, hzy, if_false] at h2 ⊢
            exact compareBytes_on h1 h2
theorem cmpName : Cmp fun x y : Sp => Lib.compareBytes x.nl y.nl where
  anti x y := compareBytes_anti _ _
  like x y h z := by rw [compareBytes_eq h]
  on x y z h1 h2 := compareBytes_on h1 h2

/-- Which of two spans stands ahead: below 0, 0, above it. -/
def cmpS : Sp → Sp → Int :=
  lexC (fun x y => Lib.compareInt x.t y.t) (lexC (fun x y => Lib.compareInt x.s y.s) (lexC (fun x y => Lib.compareInt x.i y.i) (lexC (fun x y => Lib.compareInt x.p y.p) (lexC (fun x y => Lib.compareInt x.e y.e) fun x y => Lib.compareBytes x.nl y.nl))))
theorem cmpS_cmp : Cmp cmpS := (cmpInt _).lex ((cmpInt _).lex ((cmpInt _).lex ((cmpInt _).lex ((cmpInt _).lex cmpName))))
theorem compareInt_eq {a b : Int} (h : Lib.compareInt a b = 0) : a = b := by
  unfold Lib.compareInt at h
  revert h
  (repeat' split) <;> intro h <;> omega
theorem lexC_eq {α : Type} {c d : α → α → Int} {x y : α} (h : lexC c d x y = 0) : c x y = 0 ∧ d x y = 0 := by
  unfold lexC at h
  split at h
  · rename_i h0
    exact absurd h h0
  · rename_i h0
    exact ⟨by omega, h⟩
theorem cmpS_eq {x y : Sp} (h : cmpS x y = 0) : x = y := by
  obtain ⟨a, h⟩ := lexC_eq h
  obtain ⟨b, h⟩ := lexC_eq h
  obtain ⟨c, h⟩ := lexC_eq h
  obtain ⟨d, h⟩ := lexC_eq h
  obtain ⟨e, h⟩ := lexC_eq h
  replace a := compareInt_eq a
  replace b := compareInt_eq b
  replace c := compareInt_eq c
  replace d := compareInt_eq d
  replace e := compareInt_eq e
  replace h := compareBytes_eq h
  obtain ⟨t, i, p, s, en, n⟩ := x
  obtain ⟨t', i', p', s', en', n'⟩ := y
  simp only [Sp.nl] at a b c d e h
  have hn : n = n' := by
    obtain ⟨⟨u⟩⟩ := n
    obtain ⟨⟨v⟩⟩ := n'
    simp only at h
    rw [h]
  subst a b c d e hn
  rfl
theorem cmpS_self (x : Sp) : cmpS x x = 0 := by
  have := cmpS_cmp.anti x x
  omega
/-- Whether one stands ahead of another one. -/
def ltS (x y : Sp) : Bool := decide (cmpS x y < 0)
theorem ltS_swo : SWO ltS where
  irrefl x := by unfold ltS; rw [cmpS_self]; rfl
  trans x y z h1 h2 := by
    unfold ltS at *
    rw [decide_eq_true_eq] at *
    exact cmpS_cmp.on x y z h1 h2
  ntrans x y z h1 h2 := by
    unfold ltS at *
    rw [decide_eq_false_iff_not] at *
    intro h3
    have a1 := cmpS_cmp.anti x y
    by_cases h0 : cmpS x y = 0
    · have := cmpS_cmp.like x y h0 z
      omega
    · have := cmpS_cmp.on y x z (by omega) h3
      omega
theorem ltS_tot (x y : Sp) (h1 : ltS x y = false) (h2 : ltS y x = false) : x = y := by
  unfold ltS at *
  rw [decide_eq_false_iff_not] at *
  have := cmpS_cmp.anti x y
  exact cmpS_eq (by omega)
theorem ltS_asymm {x y : Sp} (h : ltS x y = true) : ltS y x = false := by
  unfold ltS at *
  rw [decide_eq_true_eq] at h
  rw [decide_eq_false_iff_not]
  have := cmpS_cmp.anti x y
  omega
/-- Spans in their order. -/
def sortS (l : List Sp) : List Sp := l.mergeSort fun x y => !ltS y x
theorem leS_trans (a b c : Sp) (h1 : (!ltS b a) = true) (h2 : (!ltS c b) = true) : (!ltS c a) = true := by
  rw [Bool.not_eq_true'] at *
  exact ltS_swo.ntrans c b a h2 h1
theorem leS_total (a b : Sp) : ((!ltS b a) || !ltS a b) = true := by
  cases h : ltS b a
  · rfl
  · rw [ltS_asymm h]
    rfl
theorem sortS_pair (l : List Sp) : (sortS l).Pairwise fun x y => (!ltS y x) = true := List.pairwise_mergeSort leS_trans leS_total l
theorem sortS_perm (l : List Sp) : (sortS l).Perm l := List.mergeSort_perm l _
theorem sorted_one {l m : List Sp} (hl : l.Pairwise fun x y => (!ltS y x) = true) (hm : m.Pairwise fun x y => (!ltS y x) = true) (hp : l.Perm m) : l = m := by
  refine List.Perm.eq_of_pairwise (le := fun x y => (!ltS y x) = true) (fun a b _ _ h1 h2 => ?_) hl hm hp
  rw [Bool.not_eq_true'] at h1 h2
  exact ltS_tot a b h2 h1
theorem sortS_of_perm {l m : List Sp} (h : l.Perm m) : sortS l = sortS m :=
  sorted_one (sortS_pair l) (sortS_pair m) (((sortS_perm l).trans h).trans (sortS_perm m).symm)
theorem sortS_sortS (l : List Sp) : sortS (sortS l) = sortS l := sortS_of_perm (sortS_perm l)
theorem sortS_length (l : List Sp) : (sortS l).length = l.length := (sortS_perm l).length_eq

/-! ## Each one at its place -/
/-- One more at its place. -/
def insS (s : Sp) : List Sp → List Sp
  | [] => [s]
  | x :: r => if ltS s x then s :: x :: r else x :: insS s r
theorem insS_perm (s : Sp) : ∀ l : List Sp, (insS s l).Perm (s :: l)
  | [] => List.Perm.refl _
  | x :: r => by
    rw [insS]
    split
    · exact List.Perm.refl _
    · exact ((insS_perm s r).cons x).trans (List.Perm.swap s x r)
theorem insS_pair {s : Sp} : ∀ {l : List Sp}, l.Pairwise (fun x y => (!ltS y x) = true) → (insS s l).Pairwise fun x y => (!ltS y x) = true
  | [], _ => by simp [insS]
  | x :: r, h => by
    rw [insS]
    rw [List.pairwise_cons] at h
    split
    · rename_i hlt
      rw [List.pairwise_cons, List.pairwise_cons]
      have hxs : (!ltS x s) = true := by rw [Bool.not_eq_true']; exact ltS_asymm hlt
      refine ⟨fun y hy => ?_, h.1, h.2⟩
      rcases List.mem_cons.1 hy with rfl | hy
      · exact hxs
      · exact leS_trans s x y hxs (h.1 y hy)
    · rename_i hlt
      rw [List.pairwise_cons]
      refine ⟨fun y hy => ?_, insS_pair h.2⟩
      rcases List.mem_cons.1 ((insS_perm s r).mem_iff.1 hy) with rfl | hy
      · simpa using hlt
      · exact h.1 y hy
/-- All of them, each at its place. -/
def insAll (l : List Sp) : List Sp := l.foldl (fun a s => insS s a) []
theorem insAll_pair (l : List Sp) : ∀ a : List Sp, a.Pairwise (fun x y => (!ltS y x) = true) → (l.foldl (fun a s => insS s a) a).Pairwise fun x y => (!ltS y x) = true := by
  induction l with
  | nil => intro a h; exact h
  | cons s r ih => intro a h; exact ih _ (insS_pair h)
theorem insAll_perm (l : List Sp) : ∀ a : List Sp, (l.foldl (fun a s => insS s a) a).Perm (l ++ a) := by
  induction l with
  | nil => intro a; exact List.Perm.refl _
  | cons s r ih =>
    intro a
    refine (ih (insS s a)).trans ?_
    rw [List.cons_append]
    exact ((insS_perm s a).append_left r).trans List.perm_middle
theorem insAll_eq (l : List Sp) : insAll l = sortS l := by
  refine sorted_one (insAll_pair l [] List.Pairwise.nil) (sortS_pair l) ?_
  have := insAll_perm l []
  rw [List.append_nil] at this
  exact this.trans (sortS_perm l).symm
end Go.Proofs.YtimjplkehlgelaaGreat
