/- Entries and ledgers, plainly. -/
import Derived.Test.YtlmoiaeppehiiaaRCheck
import Derived.Test.YtlmoiaeppehiiaaScan
namespace Go.Proofs.Ytlmoiaeppehiiaa
set_option linter.unusedVariables false
set_option linter.unusedSimpArgs false

/-- An entry. -/
structure En where
  i : Int
  t : Int
  d : List UInt8
/-- An entry's cells as they lie: its data is a slice. -/
structure Ec where
  i : Int
  t : Int
  p : Option Go.Addr
  n : Nat
  c : Nat
deriving Inhabited
def ecC (x : Ec) : List Go.Value := [.int .i64 x.i, .int .i64 x.t, .slice x.p x.n x.c]
def ecV (x : Ec) : Go.Value := .agg #[.int .i64 x.i, .int .i64 x.t, .slice x.p x.n x.c]
theorem ecV_eq (x : Ec) : ecV x = .agg (ecC x).toArray := rfl
theorem ecC_inj {x y : Ec} (h : ecC x = ecC y) : x = y := by
  obtain ⟨a, b, c, d, e⟩ := x
  obtain ⟨a', b', c', d', e'⟩ := y
  simp only [ecC, List.cons.injEq, Go.Value.int.injEq, Go.Value.slice.injEq, true_and, and_true] at h
  obtain ⟨rfl, rfl, rfl, rfl, rfl⟩ := h
  rfl
def En.fits (e : En) : Prop := Go.Proofs.Ytlmoiaeppehiiaa.fits e.i ∧ Go.Proofs.Ytlmoiaeppehiiaa.fits e.t

/-- One more, as an int64 counts. -/
def nxt (x : Int) : Int := if x = 9223372036854775807 then -9223372036854775808 else x + 1
def cnt (n : Int) : Bool := decide (0 < n) && decide (n ≤ 1099511627776)
/-- An entry goes on from an index and a term. -/
def follow (ix tm : Int) (e : En) : Bool := decide (e.i = nxt ix) && decide (e.i ≤ 1099511627776) && decide (tm ≤ e.t) && cnt e.t && decide (e.d.length ≤ 4096)
def goOn : Int → Int → List En → Bool
  | _, _, [] => true
  | ix, tm, e :: r => follow ix tm e && goOn e.i e.t r
def good (ix tm : Int) : Bool := (decide (ix = 0) && decide (tm = 0)) || (cnt ix && cnt tm)
/-- The document's own test. -/
def rises : Int → Int → List En → Bool
  | _, _, [] => true
  | ix, tm, e :: r => decide (ix ≤ 1099511627776) && follow ix tm e && rises e.i e.t r
theorem goOn_rises : ∀ {ix tm : Int} {l : List En}, ix ≤ 1099511627776 → goOn ix tm l = rises ix tm l
  | _, _, [], _ => rfl
  | ix, tm, e :: r, h => by
    unfold goOn rises
    rw [decide_eq_true h, Bool.true_and]
    by_cases hf : follow ix tm e = true
    · rw [hf, Bool.true_and, Bool.true_and]
      refine goOn_rises ?_
      simp only [follow, Bool.and_eq_true, decide_eq_true_eq] at hf
      exact hf.1.1.1.2
    · rw [Bool.eq_false_iff.2 hf, Bool.false_and, Bool.false_and]
theorem good_le {ix tm : Int} (h : good ix tm = true) : 0 ≤ ix ∧ ix ≤ 1099511627776 ∧ 0 ≤ tm ∧ tm ≤ 1099511627776 := by
  simp only [good, cnt, Bool.or_eq_true, Bool.and_eq_true, decide_eq_true_eq] at h
  omega
theorem good_goOn {ix tm : Int} {l : List En} : (good ix tm && goOn ix tm l) = (good ix tm && rises ix tm l) := by
  by_cases h : good ix tm = true
  · rw [goOn_rises (good_le h).2.1]
  · rw [Bool.eq_false_iff.2 h]
    rfl
/-- A ledger. -/
structure Lg where
  ix : Int
  tm : Int
  l : List En
structure Lg.Ok (x : Lg) : Prop where
  good : good x.ix x.tm = true
  on : goOn x.ix x.tm x.l = true
/-- The k-th entry's index and term. -/
theorem goOn_get : ∀ {ix tm : Int} {l : List En}, goOn ix tm l = true → 0 ≤ ix → ix ≤ 1099511627776 → ∀ (k : Nat) e, l[k]? = some e → e.i = ix + k + 1 ∧ e.i ≤ 1099511627776 ∧ tm ≤ e.t ∧ 0 < e.t ∧ e.t ≤ 1099511627776 ∧ e.d.length ≤ 4096
  | ix, tm, [], _, _, _, k, e, h => by simp at h
  | ix, tm, x :: r, hg, h0, h1, k, e, h => by
    unfold goOn at hg
    rw [Bool.and_eq_true] at hg
    obtain ⟨hf, hr⟩ := hg
    simp only [follow, cnt, Bool.and_eq_true, decide_eq_true_eq] at hf
    have hn : nxt ix = ix + 1 := by unfold nxt; rw [if_neg (by omega)]
    cases k with
    | zero =>
      simp only [List.getElem?_cons_zero, Option.some.injEq] at h
      subst h
      omega
    | succ k =>
      rw [List.getElem?_cons_succ] at h
      have := goOn_get hr (by omega) (by omega) k e h
      omega
/-- The index and the term at the end. -/
def Lg.end_ (x : Lg) : Int × Int := match x.l.getLast? with | none => (x.ix, x.tm) | some e => (e.i, e.t)
theorem Lg.end_get {x : Lg} {k : Nat} {e : En} (hk : x.l[k]? = some e) (hl : k + 1 = x.l.length) : x.end_ = (e.i, e.t) := by
  unfold Lg.end_
  rw [List.getLast?_eq_getElem?, ← hl, Nat.add_sub_cancel, hk]
theorem Lg.end_nil {x : Lg} (h : x.l.length = 0) : x.end_ = (x.ix, x.tm) := by
  unfold Lg.end_
  rw [List.eq_nil_of_length_eq_zero h]
  rfl
theorem Lg.end_1 {x : Lg} (h : x.Ok) : x.end_.1 = x.ix + x.l.length := by
  have hg := good_le h.good
  by_cases h0 : x.l.length = 0
  · rw [Lg.end_nil h0, h0]
    simp
  · obtain ⟨e, he⟩ : ∃ e, x.l[x.l.length - 1]? = some e := ⟨_, List.getElem?_eq_getElem (by omega)⟩
    rw [Lg.end_get he (by omega)]
    have := goOn_get h.on hg.1 hg.2.1 _ e he
    simp only
    omega
/-- The term of an index. -/
def Lg.at_ (x : Lg) (index : Int) : Int × Bool :=
  if index = x.ix then (x.tm, true) else if x.ix < index ∧ index ≤ x.ix + x.l.length then match x.l[(index - x.ix - 1).toNat]? with | some e => (e.t, true) | none => (0, false) else (0, false)
/-- The entries from an index on, at most so many. -/
def Lg.from_ (x : Lg) (index most : Int) : List En :=
  if x.ix < index ∧ index ≤ x.ix + x.l.length then (x.l.drop (index - x.ix - 1).toNat).take most.toNat else []
end Go.Proofs.Ytlmoiaeppehiiaa
