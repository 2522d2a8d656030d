/- Messages, plainly: which may be, their bytes. -/
import Derived.Test.YtiiollgipfggmaaNNum
import Derived.Test.YtiiollgipfggmaaLed
namespace Go.Proofs.Ytiiollgipfggmaa
set_option linter.unusedVariables false
set_option linter.unusedSimpArgs false

/-- A message. -/
structure Ms where
  k : Int
  f : Int
  t : Int
  tm : Int
  ix : Int
  lt : Int
  cm : Int
  rd : Int
  ys : Bool
  dn : Bool
  es : List En
  vs : List Int
  d : List UInt8
def ms0 : Ms := ⟨0, 0, 0, 0, 0, 0, 0, 0, false, false, [], [], []⟩
/-- Its numbers. -/
def Ms.nums (m : Ms) : List Int := [m.k, m.f, m.t, m.tm, m.ix, m.lt, m.cm, m.rd]
def Ms.Fits (m : Ms) : Prop := ∀ x ∈ m.nums, fits x
theorem ms0_fits : ms0.Fits := by
  intro x hx
  simp [ms0, Ms.nums] at hx
  subst hx
  unfold fits
  omega
/-- A node; a count. -/
def isN (n : Int) : Bool := decide (0 ≤ n) && decide (n < 7)
def cnt0 (n : Int) : Bool := decide (0 ≤ n) && decide (n ≤ 1099511627776)
def goM (m : Ms) : Bool := isN m.f && isN m.t && !decide (m.f = m.t)
def cntM (m : Ms) : Bool := cnt0 m.tm && cnt0 m.ix && cnt0 m.lt && cnt0 m.cm && cnt0 m.rd && decide (0 < m.tm)
def nilL {α : Type} (l : List α) : Bool := decide (l.length = 0)
def bareM (m : Ms) : Bool := nilL m.es && nilL m.vs && nilL m.d
def appM (m : Ms) : Bool := decide (m.es.length ≤ 8) && (good m.ix m.lt && goOn m.ix m.lt m.es) && decide ((Lg.mk m.ix m.lt m.es).end_.2 ≤ m.tm)
def insM (m : Ms) : Bool := decide (0 < m.ix) && decide (0 < m.lt) && decide (m.lt ≤ m.tm) && okR m.vs && decide (m.d.length ≤ 512)
def bare (k : Int) : Bool := decide (k = 1) || decide (k = 2) || decide (k = 4) || decide (k = 6)
def carM (m : Ms) : Bool := (bare m.k && bareM m) || (decide (m.k = 3) && (nilL m.vs && nilL m.d && appM m)) || (decide (m.k = 5) && (nilL m.es && insM m))
/-- A message may be. -/
def okM (m : Ms) : Bool := goM m && cntM m && carM m
def chkM (m : Ms) : Int := if okM m then 0 else 122

theorem carM_bare {m : Ms} (h : bare m.k = true) : carM m = bareM m := by
  unfold carM
  have : m.k = 1 ∨ m.k = 2 ∨ m.k = 4 ∨ m.k = 6 := by
    simp only [bare, Bool.or_eq_true, decide_eq_true_eq] at h
    omega
  rw [h, decide_eq_false (by omega), decide_eq_false (by omega)]
  simp
theorem carM_3 {m : Ms} (h : m.k = 3) : carM m = (nilL m.vs && nilL m.d && appM m) := by
  unfold carM bare
  rw [h]
  simp
theorem carM_5 {m : Ms} (h : m.k = 5) : carM m = (nilL m.es && insM m) := by
  unfold carM bare
  rw [h]
  simp
theorem carM_no {m : Ms} (h : bare m.k = false) (h3 : m.k ≠ 3) (h5 : m.k ≠ 5) : carM m = false := by
  unfold carM
  rw [h, decide_eq_false h3, decide_eq_false h5]
  rfl
/-- The document's own test. -/
def goodI (n lo : Int) : Bool := decide (lo ≤ n) && decide (n ≤ 1099511627776)
def refHead (m : Ms) : Bool := goodI m.f 0 && decide (m.f < 7) && goodI m.t 0 && decide (m.t < 7) && (m.f != m.t) && goodI m.tm 1 && goodI m.ix 0 && goodI m.lt 0 && goodI m.cm 0 && goodI m.rd 0
theorem refHead_eq (m : Ms) : refHead m = (goM m && cntM m) := by
  unfold refHead goM cntM isN goodI cnt0
  rw [Bool.eq_iff_iff]
  simp only [Bool.and_eq_true, Bool.not_eq_true', decide_eq_true_eq, decide_eq_false_iff_not, bne_iff_ne, ne_eq]
  omega
def refApp (m : Ms) : Bool := decide (m.es.length ≤ 8) && nilL m.vs && nilL m.d && (decide (0 < m.ix) == decide (0 < m.lt)) && decide (m.lt ≤ m.tm) && rises m.ix m.lt m.es
def allT (l : List En) (tm : Int) : Bool := l.all fun e => decide (e.t ≤ tm)
theorem allT_snoc (l : List En) (e : En) (tm : Int) : allT (l ++ [e]) tm = (allT l tm && decide (e.t ≤ tm)) := by
  simp [allT]
theorem goOn_last : ∀ {ix tm : Int} {l : List En} {z : Int}, goOn ix tm l = true → ((Lg.mk ix tm l).end_.2 ≤ z ↔ (tm ≤ z ∧ allT l z = true))
  | ix, tm, [], z, _ => by simp [Lg.end_, allT]
  | ix, tm, e :: r, z, h => by
    unfold goOn at h
    rw [Bool.and_eq_true] at h
    have hf := h.1
    simp only [follow, Bool.and_eq_true, decide_eq_true_eq] at hf
    have ih := goOn_last (z := z) h.2
    have he : (Lg.mk ix tm (e :: r)).end_ = (Lg.mk e.i e.t r).end_ := by
      unfold Lg.end_
      cases r with
      | nil => rfl
      | cons a b => rw [List.getLast?_cons_cons]; dsimp only; rw [List.getLast?_cons]
    rw [he, ih]
    simp only [allT, List.all_cons, Bool.and_eq_true, decide_eq_true_eq]
    constructor
    · rintro ⟨a, b⟩
      exact ⟨by omega, a, b⟩
    · rintro ⟨a, b, c⟩
      exact ⟨b, c⟩
theorem refApp_eq {m : Ms} (hc : cntM m = true) : (refApp m && allT m.es m.tm) = (nilL m.vs && nilL m.d && appM m) := by
  have hg : good m.ix m.lt = (decide (0 < m.ix) == decide (0 < m.lt)) := by
    simp only [cntM, cnt0, Bool.and_eq_true, decide_eq_true_eq] at hc
    unfold good cnt
    rw [Bool.eq_iff_iff]
    simp only [Bool.or_eq_true, Bool.and_eq_true, decide_eq_true_eq, beq_iff_eq, decide_eq_decide]
    omega
  unfold refApp appM
  rw [hg]
  by_cases h1 : (decide (0 < m.ix) == decide (0 < m.lt)) = true
  · rw [← hg] at h1
    have hr : goOn m.ix m.lt m.es = rises m.ix m.lt m.es := goOn_rises (good_le h1).2.1
    rw [← hg, h1, ← hr]
    by_cases h2 : goOn m.ix m.lt m.es = true
    · have h3 := goOn_last (z := m.tm) h2
      have h4 : decide ((Lg.mk m.ix m.lt m.es).end_.2 ≤ m.tm) = (decide (m.lt ≤ m.tm) && allT m.es m.tm) := by
        rw [Bool.eq_iff_iff]
        simp only [Bool.and_eq_true, decide_eq_true_eq]
        exact h3
      rw [h2, h4]
      generalize decide (m.es.length ≤ 8) = q1
      generalize nilL m.vs = q2
      generalize nilL m.d = q3
      generalize decide (m.lt ≤ m.tm) = q4
      generalize allT m.es m.tm = q5
      revert q1 q2 q3 q4 q5
      decide
    · rw [Bool.eq_false_iff.2 h2]
      simp
  · rw [Bool.eq_false_iff.2 h1]
    simp
/-- A message's bytes. -/
def numB (n : Int) : List UInt8 := digits n.toNat
def enB (e : En) : List UInt8 := numB e.t ++ (digits e.d.length ++ e.d)
def esB (l : List En) : List UInt8 := (l.map enB).flatten
def nsB (l : List Int) : List UInt8 := (l.map numB).flatten
def headB (m : Ms) : List UInt8 := nsB m.nums ++ (digits m.ys.toNat ++ digits m.dn.toNat)
def payL (m : Ms) : List UInt8 := headB m ++ (digits m.es.length ++ (esB m.es ++ (digits m.vs.length ++ (nsB m.vs ++ (digits m.d.length ++ m.d)))))
theorem nsB_snoc (l : List Int) (n : Int) : nsB (l ++ [n]) = nsB l ++ numB n := by simp [nsB]
theorem esB_snoc (l : List En) (e : En) : esB (l ++ [e]) = esB l ++ enB e := by simp [esB]
theorem nsB_cons (l : List Int) (n : Int) : nsB (n :: l) = numB n ++ nsB l := by simp [nsB]
theorem esB_cons (l : List En) (e : En) : esB (e :: l) = enB e ++ esB l := by simp [esB]
end Go.Proofs.Ytiiollgipfggmaa
