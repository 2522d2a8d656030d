/- What entries of others bring: Merge. -/
import Derived.Test.YtmalhdiholblgaaLMeets
namespace Go.Proofs.Ytmalhdiholblgaa
set_option linter.unusedVariables false
set_option linter.unusedSimpArgs false
open Go.RowKit

/-- Behind the k-th entry. -/
theorem Ens.suf {w : World} {g o n c : Nat} {L : List En} (h : Ens w (.slice (some ⟨g, o, none⟩) n c) L) {k : Nat} (hk : k < n) : Ens w (.slice (some ⟨g, o + k * 3, none⟩) (n - k) (c - k)) (L.drop k) := by
  obtain ⟨E, h1, h2⟩ := h
  refine ⟨E.drop k, ?_, h2.drop k⟩
  obtain ⟨hn, hc, hm⟩ := h1.len
  obtain ⟨g', o', e, hx⟩ := h1.at_ (by omega)
  injection e with e
  injection e with e1 e2
  subst e1 e2
  refine ⟨some ⟨g, o + k * 3, none⟩, c - k, by rw [List.length_drop, hn], by rw [List.length_drop]; omega, by omega, (fun e => by cases e), fun _ => ⟨g, o + k * 3, rfl, fun i x hi => ?_⟩⟩
  rw [List.getElem?_drop] at hi
  have := hx (k + i) x hi
  rwa [show o + (k + i) * 3 = o + k * 3 + i * 3 by rw [Nat.add_mul]; omega] at this
/-- The first entry that does not pass. -/
def firstNew (x : Lg) (L : List En) : Option Nat := L.findIdx? fun e => !passI x e.i e.t
def mergeI (x : Lg) (i t : Int) (L : List En) : Int × List En × Bool :=
  if meetsI x i t L then
    match firstNew x L with
    | none => (0, [], true)
    | some k => match L[k]? with
      | none => (0, [], true)
      | some e => if e.i = x.ix + 1 ∧ e.t < x.tm then (0, [], false) else (if hasI x e.i then e.i else 0, L.drop k, true)
  else (0, [], false)

theorem notPass_any {w : World} {g b : Nat} {x : Lg} (h : LgIs w g x) (hb : w.cell? ⟨b, 0, none⟩ = some (.pointer (some ⟨g, 0, none⟩))) (i t : Int) (pd : Option Addr) (nd cd : Nat) : Calls Try.prog 38 #[.agg #[.int .i64 i, .int .i64 t, .slice pd nd cd], .pointer (some ⟨b, 0, none⟩)] w fun e w' => e = .returned (.bool (!passI x i t)) ∧ Below w.heap.size w w' := by
  have b1 : Below w.heap.size w (w.alloc (.cells #[.int .i64 i, .int .i64 t, .slice pd nd cd] 48)) := (Below.refl _ _).alloc (Nat.le_refl _) _
  have hN0 : EcAt (w.alloc (.cells #[.int .i64 i, .int .i64 t, .slice pd nd cd] 48)) w.heap.size 0 ⟨i, t, pd, nd, cd⟩ := fun j u hj => by
    rw [Nat.zero_add, cell_of_row _ w.heap.size _ _ _ (0, 0) (heap_alloc_new w _)]
    simpa [ecC] using hj
  have h1 := h.below b1
  have hb1 := (b1.cell (lt_of_cell hb)).trans hb
  obtain ⟨Y, hY⟩ : ∃ Y, w.alloc (.cells #[.int .i64 i, .int .i64 t, .slice pd nd cd] 48) = Y := ⟨_, rfl⟩
  rw [hY] at b1 hN0 h1 hb1
  have HB := hide b1
  have z0 := hN0.c0
  have z1 := hN0.c1
  have z2 := hN0.c2
  rw [Nat.zero_add] at z1 z2
  dsimp only at z0 z1 z2
  have HP := hide (passes_any h1 i t pd nd cd)
  obtain ⟨q, hq⟩ : ∃ q, passI x i t = q := ⟨_, rfl⟩
  rw [hq] at HP ⊢
  clear h h1 b1 hN0 hb hq
  go_enter Try.func38, Try.ntmps38
  go_wp2_with fail
  refine HP.out.mono ?_
  rintro e w2 ⟨rfl, hb2⟩
  have HB2 := hide (HB.out.trans (hb2.mono HB.out.size))
  clear hb2
  go_wp2
  go_ret
  exact ⟨rfl, HB2.out⟩

/-- slices.IndexFunc over the entries. -/
theorem index_any {w : World} {g b : Nat} {x : Lg} {v : Value} {L : List En} (h : LgIs w g x) (hb : w.cell? ⟨b, 0, none⟩ = some (.pointer (some ⟨g, 0, none⟩))) (hv : Ens w v L) :
    Calls Try.prog 37 #[v, .func (.func 38) #[] #[.pointer (some ⟨b, 0, none⟩)]] w fun e w' => e = .returned (.int .i64 (match firstNew x L with | none => -1 | some k => (k : Int))) ∧ Below w.heap.size w w' := by
  obtain ⟨p, n, c, rfl⟩ := hv.sl
  obtain ⟨hn, hc, hm⟩ := hv.len
  obtain ⟨E, h1, h2⟩ := hv
  have hEn : E.length = n := by rw [h2.1, hn]
  have hmx : maxLen = 9223372036854775807 := rfl
  have hps : ∀ j, (hj : j < E.length) → (fun e : Ec => !passI x e.i e.t) E[j] = (fun e : En => !passI x e.i e.t) (L[j]'(by rw [← h2.1]; exact hj)) := fun j hj => by
    obtain ⟨a, b, _⟩ := h2.2 j _ _ (List.getElem?_eq_getElem hj) (List.getElem?_eq_getElem (by rw [← h2.1]; exact hj))
    simp only [a, b]
  by_cases h0 : 0 < n
  · obtain ⟨g2, o2, rfl, hx⟩ := h1.at_ h0
    have hlt : g2 < w.heap.size := (hx 0 _ (List.getElem?_eq_getElem (by omega))).lt
    have := AnyQ.slices_IndexFunc Try.idxEn 3 Try.isAgg48 Try.sizeOf48 ecC (fun _ => rfl) (fun e => !passI x e.i e.t) 38 #[.pointer (some ⟨b, 0, none⟩)] (enters_of Try.func38 (by kernel_rfl) rfl) g2 o2 n c E w
      (fun W e hb' => notPass_any (h.below hb') ((hb'.cell (lt_of_cell hb)).trans hb) e.i e.t e.p e.n e.c |>.mono fun e9 w9 ⟨he9, hw9⟩ => ⟨he9, hb'.trans (hw9.mono hb'.size)⟩) (by omega) (by omega) hlt
      (fun j hj i u hi => by
        have hk := hx j (E[j]'hj) (List.getElem?_eq_getElem hj) i u (by
          have e1 : E[j]! = E[j]'hj := by simp [hj]
          rw [e1] at hi
          exact hi)
        exact hk)
    refine this.mono fun e w' ⟨he, hw⟩ => ⟨?_, hw⟩
    rw [he]
    congr 2
    have hz : n ≤ E.length := by omega
    cases hf : firstNew x L with
    | none =>
      have hall := List.findIdx?_eq_none_iff.1 hf
      exact Lib.idxBy_miss (fun _ (y : Ec) => !passI x y.i y.t) E n default fun j hj => by
        have e1 : E[j]! = E[j]'(by omega) := by simp [show j < E.length by omega]
        rw [e1]
        exact (hps j (by omega)).trans (hall _ (List.getElem_mem _))
    | some k =>
      obtain ⟨hk, hp, hq⟩ := List.findIdx?_eq_some_iff_getElem.1 hf
      have e1 : ∀ j, (hj : j < E.length) → E[j]! = E[j]'hj := fun j hj => by simp [hj]
      exact Lib.idxBy_hit (fun _ (y : Ec) => !passI x y.i y.t) E n k default (by omega) hz (by
        rw [e1 k (by omega)]
        exact (hps k (by omega)).trans hp) fun j hj => by
        rw [e1 j (by omega)]
        exact (hps j (by omega)).trans (by have := hq j hj; simpa using this)
  · obtain rfl : L = [] := List.eq_nil_of_length_eq_zero (by omega)
    obtain rfl : n = 0 := by omega
    clear hn hc hm h1 h2 hEn hps h0 h hb E
    go_enter Try.func37, Try.ntmps37
    go_wp2
    go_loop [5, 8] (fun _ i => i = .int .i64 0) (fun _ _ => 0)
    case atStart => rfl
    case round =>
      subst hrel
      go_wp2
      go_ret
      exact ⟨rfl, Below.refl _ _⟩
end Go.Proofs.Ytmalhdiholblgaa
