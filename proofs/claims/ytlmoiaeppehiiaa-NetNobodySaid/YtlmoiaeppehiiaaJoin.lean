/- Slices of byte slices in memory; all parts joined. -/
import Derived.Test.YtlmoiaeppehiiaaText
import Derived.Lib.AppendZeros
namespace Go.Proofs.Ytlmoiaeppehiiaa
open Go.RowKit

/-- The cells of a slice's bytes, one by one. -/
theorem By.cellAt {w : World} {p : Option Addr} {n c : Nat} {l : List UInt8} (h : By w (.slice p n c) l) {k : Nat} (hk : k < n) :
    ∃ (b o : Nat) (x : UInt8), p = some ⟨b, o, none⟩ ∧ l[k]? = some x ∧ w.cell? ⟨b, o + k, none⟩ = some (.int .u8 (x.toNat : Int)) := by
  have hn := h.len.1
  obtain ⟨p', c', e, hl, hm, hn', hc⟩ := h
  injection e with e1 e2 e3
  subst e1 e3
  rcases p with _ | a
  · have := hn' rfl
    omega
  · have hkl : k < l.length := by omega
    have h1 := hc a rfl k l[k] (List.getElem?_eq_getElem hkl)
    have h00 := hc a rfl 0 l[0] (List.getElem?_eq_getElem (by omega))
    obtain ⟨b, o, spot⟩ := a
    have hsp : spot = none := by
      have h2 := World.cell?_spot h00
      unfold Addr.add at h2
      rw [if_pos rfl] at h2
      exact h2
    subst hsp
    exact ⟨b, o, l[k], rfl, List.getElem?_eq_getElem hkl, by rw [add_lit0] at h1; exact h1⟩

/-- The value v is a slice of slices that read as the lists ls. -/
def Bss (w : World) (v : Value) (ls : List (List UInt8)) : Prop :=
  ∃ (p : Option Addr) (c : Nat), v = .slice p ls.length c ∧ ls.length ≤ c ∧ c ≤ maxLen ∧ (p = none → c = 0) ∧
    ∀ a, p = some a → ∀ (i : Nat) l, ls[i]? = some l → ∃ u, w.cell? (a.add i) = some u ∧ By w u l

theorem Bss.nil (w : World) : Bss w (.slice none 0 0) [] := ⟨none, 0, rfl, by simp, by simp [maxLen], fun _ => rfl, fun a h => by cases h⟩

theorem Bss.below {w w' : World} {v : Value} {ls : List (List UInt8)} (h : Bss w v ls) (hb : Below w.heap.size w w') : Bss w' v ls := by
  obtain ⟨p, c, rfl, hl, hm, hn, hc⟩ := h
  refine ⟨p, c, rfl, hl, hm, hn, fun a e i l hi => ?_⟩
  obtain ⟨u, hu, hbu⟩ := hc a e i l hi
  exact ⟨u, (hb.cell (lt_of_cell hu)).trans hu, hbu.below hb⟩

theorem Bss.sl {w : World} {v : Value} {ls : List (List UInt8)} (h : Bss w v ls) : ∃ p n c, v = .slice p n c := by
  obtain ⟨p, c, e, _⟩ := h
  exact ⟨p, _, c, e⟩

theorem Bss.len {w : World} {p : Option Addr} {n c : Nat} {ls : List (List UInt8)} (h : Bss w (.slice p n c) ls) : n = ls.length ∧ n ≤ maxLen ∧ n ≤ c := by
  obtain ⟨p', c', e, hl, hm, _⟩ := h
  injection e with _ e2 e3
  omega

/-- The cells of a slice of slices, one by one. -/
theorem Bss.cellAt {w : World} {p : Option Addr} {n c : Nat} {ls : List (List UInt8)} (h : Bss w (.slice p n c) ls) {k : Nat} (hk : k < n) :
    ∃ (b o : Nat) (q : Option Addr) (m d : Nat) (l : List UInt8), p = some ⟨b, o, none⟩ ∧ ls[k]? = some l ∧ w.cell? ⟨b, o + k, none⟩ = some (.slice q m d) ∧ By w (.slice q m d) l := by
  have hn := h.len.1
  obtain ⟨p', c', e, hl, hm, hn', hc⟩ := h
  injection e with e1 e2 e3
  subst e1 e3
  rcases p with _ | a
  · have := hn' rfl
    omega
  · have hkl : k < ls.length := by omega
    obtain ⟨u, h1, hb⟩ := hc a rfl k ls[k] (List.getElem?_eq_getElem hkl)
    obtain ⟨u0, h00, _⟩ := hc a rfl 0 ls[0] (List.getElem?_eq_getElem (by omega))
    obtain ⟨b, o, spot⟩ := a
    have hsp : spot = none := by
      have h2 := World.cell?_spot h00
      unfold Addr.add at h2
      rw [if_pos rfl] at h2
      exact h2
    subst hsp
    obtain ⟨q, m, d, rfl⟩ := hb.sl
    exact ⟨b, o, q, m, d, ls[k], rfl, List.getElem?_eq_getElem hkl, by rw [add_lit0] at h1; exact h1, hb⟩

theorem By.lenMax {w : World} {p : Option Addr} {n c : Nat} {l : List UInt8} (h : By w (.slice p n c) l) : (n : Int) ≤ 9223372036854775807 := by
  obtain ⟨p', c', e, hl, hm, _⟩ := h
  injection e with _ e2 e3
  unfold maxLen at hm
  omega

theorem Bss.of_parts {w : World} {b o n c : Nat} {vs : List Value} {ls : List (List UInt8)} (hn : n = ls.length) (hc : n ≤ c) (hm : c ≤ maxLen) (hl : vs.length = ls.length)
    (hcell : ∀ (i : Nat) v, vs[i]? = some v → w.cell? ⟨b, o + i, none⟩ = some v) (h : ∀ (i : Nat) v l, vs[i]? = some v → ls[i]? = some l → By w v l) : Bss w (.slice (some ⟨b, o, none⟩) n c) ls := by
  subst hn
  refine ⟨_, c, rfl, hc, hm, (fun e => by cases e), fun a e i l hi => ?_⟩
  injection e with e
  subst e
  have hil : i < vs.length := by rw [hl]; exact (List.getElem?_eq_some_iff.1 hi).1
  exact ⟨vs[i], by rw [add_lit0]; exact hcell i _ (List.getElem?_eq_getElem hil), h i _ l (List.getElem?_eq_getElem hil) hi⟩

theorem Bss.new {w : World} {t : TypeId} {n : Nat} {vs : List Value} {ls : List (List UInt8)} (hn : n = ls.length) (hm : n ≤ maxLen) (hl : vs.length = ls.length) (h : ∀ (i : Nat) v l, vs[i]? = some v → ls[i]? = some l → By w v l) :
    Bss (w.alloc (.cells vs.toArray t)) (.slice (some ⟨w.heap.size, 0, none⟩) n n) ls := by
  refine Bss.of_parts hn (Nat.le_refl _) hm hl (fun i v hv => ?_) fun i v l hv hl' => (h i v l hv hl').alloc _
  rw [Nat.zero_add, cell_of_row _ _ i vs.toArray t (0, 0) (heap_alloc_new w _)]
  simpa using hv

theorem Bss.parts {w : World} {b o n c : Nat} {ls : List (List UInt8)} (h : Bss w (.slice (some ⟨b, o, none⟩) n c) ls) : ∃ vs, Lib.PartsAt w ⟨b, o, none⟩ vs ls := by
  have hn := h.len.1
  obtain ⟨p', c', e, hl, hm, hn', hc⟩ := h
  injection e with e1 e2 e3
  subst e1 e3
  refine ⟨(List.range ls.length).map fun i => (w.cell? ⟨b, o + i, none⟩).getD undef, by simp, fun i v hv => ?_, fun i v l hv hl' => ?_⟩
  all_goals
    have hi : i < ls.length := by have := (List.getElem?_eq_some_iff.1 hv).1; simpa using this
    obtain ⟨u, hu, hb⟩ := hc _ rfl i ls[i] (List.getElem?_eq_getElem hi)
    rw [add_lit0] at hu
    simp only [List.getElem?_map, List.getElem?_range hi, Option.map_some, Option.some.injEq, hu, Option.getD_some] at hv
    subst hv
  · rw [add_lit0]
    exact hu
  · rw [List.getElem?_eq_getElem hi] at hl'
    injection hl' with hl'
    subst hl'
    exact hb.holds

theorem join_step {w : World} {v : Value} {P : Ending → World → Prop} (h : Calls Try.prog 94 #[v, .slice none 0 0] w fun e w' => ∃ v', e = .returned v' ∧ P (.returned v') w') :
    Calls Try.prog 69 #[v] w fun e w' => P e w' := by
  have H := hide h
  clear h
  go_enter Try.func69, Try.ntmps69
  go_wp2_with fail
  refine H.out.mono ?_
  rintro e w1 ⟨v1, rfl, hp⟩
  have HP := hide hp
  clear hp H
  go_wp2
  exact HP.out

theorem flatten_one (l : List UInt8) : [l].flatten = l := by simp

/-- wire.Join of any parts. -/
theorem join_any {w : World} {v : Value} {ls : List (List UInt8)} (hv : Bss w v ls) (hl : Lib.lens ls ≤ 140737488355328) (hn47 : ls.length ≤ 140737488355328) :
    Calls Try.prog 69 #[v] w fun e w' => ∃ v', e = .returned v' ∧ Own w.heap.size w' v' ls.flatten ∧ Below w.heap.size w w' := by
  obtain ⟨p, n, c, rfl⟩ := hv.sl
  obtain ⟨hn, hm, hnc⟩ := hv.len
  by_cases h2 : 2 ≤ n
  · obtain ⟨b, o, _, _, _, _, rfl, _⟩ := hv.cellAt (k := 0) (by omega)
    obtain ⟨vs, hP⟩ := hv.parts
    exact join_many hn.symm h2 hP hnc hl (by omega)
  · refine join_step (P := fun e w' => ∃ v', e = .returned v' ∧ Own w.heap.size w' v' ls.flatten ∧ Below w.heap.size w w') ?_
    by_cases h1 : n = 1
    · subst h1
      obtain ⟨b, o, q, m, d, l, rfl, hx, hcell, hby⟩ := hv.cellAt (k := 0) (by omega)
      have hls : ls = [l] := by
        cases ls with
        | nil => simp at hx
        | cons x r =>
          simp at hx
          subst hx
          cases r with
          | nil => rfl
          | cons y r => simp at hn
      subst hls
      rw [flatten_one]
      rw [Nat.add_zero] at hcell
      obtain ⟨hml, hmd⟩ := hby.len
      by_cases h0 : l.length = 0
      · obtain rfl : l = [] := List.eq_nil_of_length_eq_zero h0
        obtain rfl : m = 0 := hml
        exact (Try.bytes_Join_one_empty b o c q d _ w hcell).mono fun e w' ⟨he, hw⟩ => ⟨_, he, _, rfl, Own.nil _ _, by rw [hw]; exact Below.refl _ _⟩
      · obtain ⟨b2, o2, x, rfl, _, _⟩ := hby.cellAt (k := 0) (by omega)
        subst hml
        obtain ⟨q', d', e, _, _, _, hc⟩ := hby
        injection e with e1 e2 e3
        subst e1
        exact (Try.bytes_Join_one b o c _ d l _ w hcell (fun i x hx => hc _ rfl i x hx) (by omega) (by simp [Lib.lens] at hl; omega)).mono fun e w' ⟨v', he, hf, hb⟩ => ⟨_, he, _, rfl, Own.of_fresh hf, hb⟩
    · obtain rfl : n = 0 := by omega
      obtain rfl : ls = [] := List.eq_nil_of_length_eq_zero hn.symm
      refine (Try.bytes_Join_none p c _ w).mono fun e w' ⟨he, hw⟩ => ⟨_, he, _, rfl, ?_, by rw [hw]; exact (Below.refl _ _).alloc (Nat.le_refl _) _⟩
      refine .inr ⟨w.heap.size, 0, rfl, Nat.le_refl _, Nat.le_refl _, by simp [maxLen], fun i x hx => by simp at hx, fun i hi => by omega, fun i hi => by omega⟩

theorem lens_take_le' (ls : List (List UInt8)) (k : Nat) : Lib.lens (ls.take k) ≤ Lib.lens ls := Lib.lens_take_le ls k

theorem flatten_length (ls : List (List UInt8)) : ls.flatten.length = Lib.lens ls := by
  rw [List.length_flatten]
  rfl

theorem size_alloc' (w : World) (o : Obj) : (w.alloc o).heap.size = w.heap.size + 1 := by simp

theorem one_part {w : World} {v : Value} {l : List UInt8} (h : By w v l) : Bss (w.alloc (.cells #[v] 24)) (.slice (some ⟨w.heap.size, 0, none⟩) 1 1) [l] :=
  Bss.new (vs := [v]) rfl (by decide) rfl fun i u m hu hm => by
    match i, hu, hm with
    | 0, hu, hm => simp at hu hm; subst hu hm; exact h

theorem two_parts {w : World} {v u : Value} {l m : List UInt8} (h : By w v l) (h2 : By w u m) : Bss (w.alloc (.cells #[v, u] 24)) (.slice (some ⟨w.heap.size, 0, none⟩) 2 2) [l, m] :=
  Bss.new (vs := [v, u]) rfl (by decide) rfl fun i u m hu hm => by
    match i, hu, hm with
    | 0, hu, hm => simp at hu hm; subst hu hm; exact h
    | 1, hu, hm => simp at hu hm; subst hu hm; exact h2
end Go.Proofs.Ytlmoiaeppehiiaa
