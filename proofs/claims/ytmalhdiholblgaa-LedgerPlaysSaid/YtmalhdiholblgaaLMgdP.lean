/- What others bring fits: plainly. -/
import Derived.Test.YtmalhdiholblgaaLCln
namespace Go.Proofs.Ytmalhdiholblgaa
set_option linter.unusedVariables false
set_option linter.unusedSimpArgs false
open Go.RowKit

theorem goOn_ix : ∀ {i t : Int} {L : List En}, goOn i t L = true → i ≤ 1099511627776 → ∀ (m : Nat) y, L[m]? = some y → y.i = i + m + 1 ∧ y.i ≤ 1099511627776
  | i, t, [], _, _, m, y, h => by simp at h
  | i, t, e :: r, hg, hi, m, y, h => by
    simp only [goOn, Bool.and_eq_true] at hg
    obtain ⟨hf, hr⟩ := hg
    simp only [follow, Bool.and_eq_true, decide_eq_true_eq] at hf
    have hn : nxt i = i + 1 := by unfold nxt; rw [if_neg (by omega)]
    cases m with
    | zero =>
      simp only [List.getElem?_cons_zero, Option.some.injEq] at h
      subst h
      omega
    | succ m =>
      rw [List.getElem?_cons_succ] at h
      have := goOn_ix hr (by omega) m y h
      omega
theorem goOn_from {i t : Int} {L : List En} (h : goOn i t L = true) {m : Nat} {a : En} (ha : L[m]? = some a) : goOn a.i a.t (L.drop (m + 1)) = true := by
  have h2 := goOn_drop h (m + 1)
  have hl := (List.getElem?_eq_some_iff.1 ha).1
  rw [Lg.end_get (x := Lg.mk i t (L.take (m + 1))) (k := m) (e := a) (by
    show (L.take (m + 1))[m]? = some a
    rw [List.getElem?_take_of_lt (by omega)]
    exact ha) (by
    show m + 1 = (L.take (m + 1)).length
    rw [List.length_take]
    omega)] at h2
  exact h2
theorem goOn_head {i t u : Int} {e : En} {r : List En} (h : goOn i t (e :: r) = true) (hu : u ≤ e.t) : goOn i u (e :: r) = true := by
  simp only [goOn, follow, Bool.and_eq_true, decide_eq_true_eq] at h ⊢
  exact ⟨⟨⟨⟨h.1.1.1.1, hu⟩, h.1.1.2⟩, h.1.2⟩, h.2⟩
theorem goOn_le {i t : Int} {e : En} {r : List En} (h : goOn i t (e :: r) = true) : t ≤ e.t := by
  simp only [goOn, follow, Bool.and_eq_true, decide_eq_true_eq] at h
  exact h.1.1.1.2
theorem at_front {ix tm : Int} {l S : List En} {j : Nat} (hj : j ≤ l.length) {n : Int} (hn : n ≤ ix + j) : (Lg.mk ix tm (l.take j ++ S)).at_ n = (Lg.mk ix tm l).at_ n := by
  unfold Lg.at_
  by_cases h0 : n = ix
  · rw [if_pos h0, if_pos h0]
  · rw [if_neg h0, if_neg h0]
    dsimp only
    by_cases h1 : ix < n
    · have hl : (l.take j ++ S).length = j + S.length := by rw [List.length_append, List.length_take]; omega
      rw [if_pos ⟨h1, by rw [hl]; omega⟩, if_pos ⟨h1, by omega⟩, List.getElem?_append_left (by rw [List.length_take]; omega), List.getElem?_take_of_lt (by omega)]
    · rw [if_neg (by omega), if_neg (by omega)]
theorem at_back {ix tm : Int} {l S : List En} {j d : Nat} (hj : j ≤ l.length) {y : En} (hy : S[d]? = some y) {n : Int} (hn : n = ix + j + 1 + d) : (Lg.mk ix tm (l.take j ++ S)).at_ n = (y.t, true) := by
  unfold Lg.at_
  have hd := (List.getElem?_eq_some_iff.1 hy).1
  have hl : (l.take j ++ S).length = j + S.length := by rw [List.length_append, List.length_take]; omega
  rw [if_neg (by show ¬ n = ix; omega)]
  dsimp only
  rw [if_pos ⟨by omega, by rw [hl]; omega⟩, List.getElem?_append_right (by rw [List.length_take]; omega), List.length_take, show (n - ix - 1).toNat - min j l.length = d by omega, hy]
/-- All pass: nothing more comes. -/
theorem merge_none {x : Lg} {i t : Int} {L : List En} (hm : meetsI x i t L = true) (hp : ∀ y ∈ L, passI x y.i y.t = true) : mergeI x i t L = (0, [], true) := by
  unfold mergeI
  rw [if_pos hm]
  have : firstNew x L = none := by
    unfold firstNew
    rw [List.findIdx?_eq_none_iff]
    intro y hy
    rw [hp y hy]
    rfl
  rw [this]
theorem merge_cases {x : Lg} {i t : Int} {L : List En} {a : Int} {S : List En} (h : mergeI x i t L = (a, S, true)) :
    meetsI x i t L = true ∧ ((a = 0 ∧ S = [] ∧ ∀ y ∈ L, passI x y.i y.t = true) ∨ ∃ k e, L[k]? = some e ∧ passI x e.i e.t = false ∧ (∀ (m : Nat) y, m < k → L[m]? = some y → passI x y.i y.t = true) ∧ ¬ (e.i = x.ix + 1 ∧ e.t < x.tm) ∧ a = (if hasI x e.i then e.i else 0) ∧ S = L.drop k) := by
  unfold mergeI at h
  by_cases hm : meetsI x i t L = true
  · rw [if_pos hm] at h
    refine ⟨hm, ?_⟩
    cases hf : firstNew x L with
    | none =>
      rw [hf] at h
      simp only [Prod.mk.injEq] at h
      refine .inl ⟨h.1.symm, h.2.1.symm, fun y hy => ?_⟩
      unfold firstNew at hf
      rw [List.findIdx?_eq_none_iff] at hf
      simpa using hf y hy
    | some k =>
      rw [hf] at h
      unfold firstNew at hf
      rw [List.findIdx?_eq_some_iff_getElem] at hf
      obtain ⟨hk, h1, h2⟩ := hf
      have he := List.getElem?_eq_getElem hk
      obtain ⟨e, hee⟩ : ∃ e, L[k] = e := ⟨_, rfl⟩
      rw [hee] at he h1
      simp only [he] at h
      by_cases hq : e.i = x.ix + 1 ∧ e.t < x.tm
      · rw [if_pos hq] at h
        simp at h
      · rw [if_neg hq] at h
        simp only [Prod.mk.injEq] at h
        refine .inr ⟨k, e, he, by simpa using h1, fun m y hm' hy => ?_, hq, h.1.symm, h.2.1.symm⟩
        obtain ⟨hl, hy'⟩ := List.getElem?_eq_some_iff.1 hy
        have := h2 m hm'
        rw [hy'] at this
        simpa using this
  · rw [if_neg hm] at h
    simp at h
theorem merge_no {x : Lg} {i t : Int} {L : List En} {a : Int} {S : List En} (h : mergeI x i t L = (a, S, false)) : a = 0 ∧ S = [] := by
  unfold mergeI at h
  by_cases hm : meetsI x i t L = true
  · rw [if_pos hm] at h
    cases hf : firstNew x L with
    | none =>
      rw [hf] at h
      simp at h
    | some k =>
      rw [hf] at h
      cases hk : L[k]? with
      | none =>
        simp only [hk] at h
        simp at h
      | some e =>
        simp only [hk] at h
        by_cases hq : e.i = x.ix + 1 ∧ e.t < x.tm
        · rw [if_pos hq] at h
          simp only [Prod.mk.injEq] at h
          exact ⟨h.1.symm, h.2.1.symm⟩
        · rw [if_neg hq] at h
          simp at h
  · rw [if_neg hm] at h
    simp only [Prod.mk.injEq] at h
    exact ⟨h.1.symm, h.2.1.symm⟩
theorem agrees_at {x : Lg} {i t : Int} (h : agreesI x i t = true) : x.at_ i = (t, true) := by
  unfold agreesI at h
  rw [Bool.and_eq_true] at h
  refine Prod.ext ?_ h.1
  simpa using h.2
theorem at_agrees {x : Lg} {i t : Int} (h : x.at_ i = (t, true)) : agreesI x i t = true := by
  unfold agreesI
  rw [h]
  simp
theorem agrees_range {x : Lg} {i t : Int} (h : agreesI x i t = true) : x.ix ≤ i ∧ i ≤ x.ix + x.l.length := by
  have h1 := agrees_at h
  have h2 := at_in (x := x) i
  rw [h1] at h2
  simp only [hasI] at h2
  have h3 := h2.symm
  simp only [Bool.or_eq_true, Bool.and_eq_true, decide_eq_true_eq] at h3
  omega
/-- Behind what entries bring. -/
structure Mgd (x : Lg) (i t : Int) (L : List En) (a : Int) (S : List En) (x1 x2 : Lg) : Prop where
  one : (if 0 < a then cutR x a else (0, x)) = (0, x1)
  two : addR x1 S = (0, x2)
  ix : x2.ix = x.ix
  at_ : ∀ y ∈ L, x.ix < y.i → x2.at_ y.i = (y.t, true)
  done : mergeI x2 i t L = (0, [], true)
  few : x1.l.length ≤ x.l.length
theorem merged_fits {x : Lg} (ho : x.Ok) {i t : Int} {L : List En} {a : Int} {S : List En} (h : mergeI x i t L = (a, S, true)) : ∃ x1 x2, Mgd x i t L a S x1 x2 := by
  obtain ⟨hm, hc⟩ := merge_cases h
  have hg := good_le ho.good
  have hfar := end_far ho
  have hmt := hm
  unfold meetsI at hmt
  rw [Bool.and_eq_true, Bool.or_eq_true] at hmt
  obtain ⟨hgo, hor⟩ := hmt
  have hi40 : i ≤ x.ix + x.l.length := by
    rcases hor with h1 | h1
    · have : i < x.ix := by simpa using h1
      omega
    · exact (agrees_range h1).2
  rcases hc with ⟨rfl, rfl, hp⟩ | ⟨k, e, he, hne, hpre, hnq, ha, rfl⟩
  · refine ⟨x, x, by rw [if_neg (by omega)], ?_, rfl, fun y hy hlt => ?_, merge_none hm hp, Nat.le_refl _⟩
    · unfold addR
      rw [if_pos (by rfl), List.append_nil]
    · have := hp y hy
      unfold passI at this
      rw [Bool.or_eq_true] at this
      rcases this with h1 | h1
      · have : y.i ≤ x.ix := by simpa using h1
        omega
      · exact agrees_at h1
  · have hidx := fun m y hy => goOn_ix hgo (by omega) m y hy
    have hei := hidx k e he
    have hkl := (List.getElem?_eq_some_iff.1 he).1
    unfold passI at hne
    rw [Bool.or_eq_false_iff] at hne
    have hgt : x.ix < e.i := by
      have : ¬ e.i ≤ x.ix := by simpa using hne.1
      omega
    obtain ⟨j, hj⟩ : ∃ j : Nat, e.i = x.ix + j + 1 := ⟨(e.i - x.ix - 1).toNat, by omega⟩
    -- the one ahead of e
    have hprev : ∃ pt, pt ≤ e.t ∧ goOn (e.i - 1) pt (L.drop k) = true ∧ (x.ix < e.i - 1 → agreesI x (e.i - 1) pt = true) ∧ (e.i - 1 ≤ x.ix + x.l.length) := by
      have hdrop : L.drop k = e :: L.drop (k + 1) := by
        obtain ⟨_, he'⟩ := List.getElem?_eq_some_iff.1 he
        rw [← he']
        exact List.drop_eq_getElem_cons hkl
      cases k with
      | zero =>
        have hie : e.i - 1 = i := by omega
        rw [hie, hdrop]
        have hgo' : goOn i t (e :: L.drop (0 + 1)) = true := by
          rw [← hdrop]
          exact hgo
        refine ⟨t, goOn_le hgo', hgo', fun hlt => ?_, hi40⟩
        rcases hor with h1 | h1
        · have : i < x.ix := by simpa using h1
          omega
        · exact h1
      | succ k =>
        have hpk := List.getElem?_eq_getElem (l := L) (i := k) (by omega)
        obtain ⟨b, hb⟩ : ∃ b, L[k]'(by omega) = b := ⟨_, rfl⟩
        rw [hb] at hpk
        have hbi := hidx k b hpk
        have hie : e.i - 1 = b.i := by omega
        have hgo' := goOn_from hgo hpk
        rw [hie, hdrop]
        rw [hdrop] at hgo'
        have hpb := hpre k b (by omega) hpk
        unfold passI at hpb
        rw [Bool.or_eq_true] at hpb
        refine ⟨b.t, goOn_le hgo', hgo', fun hlt => ?_, ?_⟩
        · rcases hpb with h1 | h1
          · have : b.i ≤ x.ix := by simpa using h1
            omega
          · exact h1
        · rcases hpb with h1 | h1
          · have : b.i ≤ x.ix := by simpa using h1
            omega
          · exact (agrees_range h1).2
    obtain ⟨pt, hpt, hgok, hpa, hple⟩ := hprev
    have hjl : j ≤ x.l.length := by omega
    have hone : (if 0 < a then cutR x a else (0, x)) = (0, ⟨x.ix, x.tm, x.l.take j⟩) := by
      by_cases hh : hasI x e.i = true
      · rw [if_pos hh] at ha
        subst ha
        rw [if_pos (by omega)]
        unfold cutR
        rw [if_pos hh, show (e.i - x.ix - 1).toNat = j by omega]
      · rw [if_neg hh] at ha
        subst ha
        rw [if_neg (by omega)]
        have : x.l.length ≤ j := by
          simp only [hasI, Bool.and_eq_true, decide_eq_true_eq] at hh
          omega
        rw [List.take_of_length_le this]
    have hend : (Lg.mk x.ix x.tm (x.l.take j)).end_.1 = e.i - 1 ∧ (Lg.mk x.ix x.tm (x.l.take j)).end_.2 ≤ e.t := by
      have h1 := Lg.end_1 (ho.cut j)
      dsimp only at h1
      rw [List.length_take] at h1
      refine ⟨by rw [h1]; omega, ?_⟩
      cases j with
      | zero =>
        rw [Lg.end_nil (by simp)]
        show x.tm ≤ e.t
        omega
      | succ j =>
        have h2 := agrees_at (hpa (by omega))
        have hge := List.getElem?_eq_getElem (l := x.l) (i := j) (by omega)
        obtain ⟨b, hb⟩ : ∃ b, x.l[j]'(by omega) = b := ⟨_, rfl⟩
        rw [hb] at hge
        rw [Lg.end_get (x := Lg.mk x.ix x.tm (x.l.take (j + 1))) (k := j) (e := b) (by
          show (x.l.take (j + 1))[j]? = some b
          rw [List.getElem?_take_of_lt (by omega)]
          exact hge) (by
          show j + 1 = (x.l.take (j + 1)).length
          rw [List.length_take]
          omega)]
        unfold Lg.at_ at h2
        rw [if_neg (by omega), if_pos ⟨by omega, by omega⟩, show (e.i - 1 - x.ix - 1).toNat = j by omega, hge] at h2
        have h3 : b.t = pt := congrArg Prod.fst h2
        show b.t ≤ e.t
        omega
    have hdrop : L.drop k = e :: L.drop (k + 1) := by
      obtain ⟨_, he'⟩ := List.getElem?_eq_some_iff.1 he
      rw [← he']
      exact List.drop_eq_getElem_cons hkl
    have htwo : addR ⟨x.ix, x.tm, x.l.take j⟩ (L.drop k) = (0, ⟨x.ix, x.tm, x.l.take j ++ L.drop k⟩) := by
      unfold addR
      rw [if_pos (by
        rw [hend.1, hdrop]
        rw [hdrop] at hgok
        exact goOn_head hgok hend.2)]
    have hat : ∀ y ∈ L, x.ix < y.i → (Lg.mk x.ix x.tm (x.l.take j ++ L.drop k)).at_ y.i = (y.t, true) := fun y hy hlt => by
      obtain ⟨m, hm'⟩ := List.mem_iff_getElem?.1 hy
      have hyi := hidx m y hm'
      by_cases hmk : m < k
      · rw [at_front hjl (by omega)]
        have := hpre m y hmk hm'
        unfold passI at this
        rw [Bool.or_eq_true] at this
        rcases this with h1 | h1
        · have : y.i ≤ x.ix := by simpa using h1
          omega
        · exact agrees_at h1
      · exact at_back hjl (d := m - k) (by rw [List.getElem?_drop, show k + (m - k) = m by omega]; exact hm') (by omega)
    refine ⟨_, _, hone, htwo, rfl, hat, merge_none ?_ fun y hy => ?_, by rw [List.length_take]; omega⟩
    · unfold meetsI
      rw [Bool.and_eq_true, Bool.or_eq_true]
      refine ⟨hgo, ?_⟩
      rcases hor with h1 | h1
      · exact .inl h1
      · refine .inr (at_agrees ?_)
        rw [at_front hjl (by omega)]
        exact agrees_at h1
    · unfold passI
      rw [Bool.or_eq_true]
      by_cases hlt : x.ix < y.i
      · exact .inr (at_agrees (hat y hy hlt))
      · exact .inl (by
          show decide (y.i ≤ x.ix) = true
          exact decide_eq_true (by omega))
end Go.Proofs.Ytmalhdiholblgaa
