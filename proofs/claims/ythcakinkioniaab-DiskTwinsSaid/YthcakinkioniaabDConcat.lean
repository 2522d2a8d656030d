/- Slices of byte slices, and Go's Concat. -/
import Derived.Test.YthcakinkioniaabDKeep
import Derived.Lib.AppendZeros
namespace Go.Proofs.Ythcakinkioniaab
open Go.RowKit

/-- The value v is a slice of slices that read as the lists ls. -/
def Bss (w : World) (v : Value) (ls : List (List UInt8)) : Prop :=
  ∃ (p : Option Addr) (c : Nat), v = .slice p ls.length c ∧ ls.length ≤ c ∧ c ≤ maxLen ∧ (p = none → c = 0) ∧
    ∀ a, p = some a → ∀ (i : Nat) l, ls[i]? = some l → ∃ u, w.cell? (a.add i) = some u ∧ By w u l

theorem Bss.nil (w : World) : Bss w (.slice none 0 0) [] := ⟨none, 0, rfl, by simp, by simp [maxLen], fun _ => rfl, fun a h => by cases h⟩

theorem Bss.below {w w' : World} {v : Value} {ls : List (List UInt8)} (h : Bss w v ls) (hb : Below w.heap.size w w') : Bss w' v ls := by
  obtain ⟨p, c, rfl, hl, hm, hn, hc⟩ := h
  refine ⟨p, c, rfl, hl, hm, hn, fun a e i l hi => ?_⟩
  obtain ⟨u, hu, hbu⟩ := hc a e i l hi
  exact ⟨u, (hb.cell (lt_of_cell hu)).trans hu, hbu.below hb⟩

theorem Bss.sl {w : World} {v : Value} {ls : List (List UInt8)} (h : Bss w v ls) : ∃ p n c, v = .slice p n c := by
  obtain ⟨p, c, e, _⟩ := h
  exact ⟨p, _, c, e⟩

theorem Bss.len {w : World} {p : Option Addr} {n c : Nat} {ls : List (List UInt8)} (h : Bss w (.slice p n c) ls) : n = ls.length ∧ n ≤ maxLen ∧ n ≤ c := by
  obtain ⟨p', c', e, hl, hm, _⟩ := h
  injection e with _ e2 e3
  omega

/-- The cells of a slice of slices, one by one. -/
theorem Bss.cellAt {w : World} {p : Option Addr} {n c : Nat} {ls : List (List UInt8)} (h : Bss w (.slice p n c) ls) {k : Nat} (hk : k < n) :
    ∃ (b o : Nat) (q : Option Addr) (m d : Nat) (l : List UInt8), p = some ⟨b, o, none⟩ ∧ ls[k]? = some l ∧ w.cell? ⟨b, o + k, none⟩ = some (.slice q m d) ∧ By w (.slice q m d) l := by
  have hn := h.len.1
  obtain ⟨p', c', e, hl, hm, hn', hc⟩ := h
  injection e with e1 e2 e3
  subst e1 e3
  rcases p with _ | a
  · have := hn' rfl
    omega
  · have hkl : k < ls.length := by omega
    obtain ⟨u, h1, hb⟩ := hc a rfl k ls[k] (List.getElem?_eq_getElem hkl)
    obtain ⟨u0, h00, _⟩ := hc a rfl 0 ls[0] (List.getElem?_eq_getElem (by omega))
    obtain ⟨b, o, spot⟩ := a
    have hsp : spot = none := by
      have h2 := World.cell?_spot h00
      unfold Addr.add at h2
      rw [if_pos rfl] at h2
      exact h2
    subst hsp
    obtain ⟨q, m, d, rfl⟩ := hb.sl
    exact ⟨b, o, q, m, d, ls[k], rfl, List.getElem?_eq_getElem hkl, by rw [add_lit0] at h1; exact h1, hb⟩

theorem Bss.of_parts {w : World} {b o n c : Nat} {vs : List Value} {ls : List (List UInt8)} (hn : n = ls.length) (hc : n ≤ c) (hm : c ≤ maxLen) (hl : vs.length = ls.length)
    (hcell : ∀ (i : Nat) v, vs[i]? = some v → w.cell? ⟨b, o + i, none⟩ = some v) (h : ∀ (i : Nat) v l, vs[i]? = some v → ls[i]? = some l → By w v l) : Bss w (.slice (some ⟨b, o, none⟩) n c) ls := by
  subst hn
  refine ⟨_, c, rfl, hc, hm, (fun e => by cases e), fun a e i l hi => ?_⟩
  injection e with e
  subst e
  have hil : i < vs.length := by rw [hl]; exact (List.getElem?_eq_some_iff.1 hi).1
  exact ⟨vs[i], by rw [add_lit0]; exact hcell i _ (List.getElem?_eq_getElem hil), h i _ l (List.getElem?_eq_getElem hil) hi⟩

theorem Bss.new {w : World} {t : TypeId} {n : Nat} {vs : List Value} {ls : List (List UInt8)} (hn : n = ls.length) (hm : n ≤ maxLen) (hl : vs.length = ls.length) (h : ∀ (i : Nat) v l, vs[i]? = some v → ls[i]? = some l → By w v l) :
    Bss (w.alloc (.cells vs.toArray t)) (.slice (some ⟨w.heap.size, 0, none⟩) n n) ls := by
  refine Bss.of_parts hn (Nat.le_refl _) hm hl (fun i v hv => ?_) fun i v l hv hl' => (h i v l hv hl').alloc _
  rw [Nat.zero_add, cell_of_row _ _ i vs.toArray t (0, 0) (heap_alloc_new w _)]
  simpa using hv


set_option maxRecDepth 20000 in
set_option maxHeartbeats 400000 in
/-- slices.Grow of nil. -/
theorem grow_nil (n : Nat) (hn : n ≤ 20000000) (w : World) :
    Calls Try.prog 49 #[.slice none 0 0, .int .i64 (n : Int)] w fun e w' => ∃ v', e = .returned v' ∧ Own w.heap.size w' v' [] ∧ Below w.heap.size w w' := by
  obtain ⟨i0, hi0, hz0, hz1, hz2⟩ := info_parts Try.info5
  by_cases h0 : n = 0
  · subst h0
    go_enter Try.func49, Try.ntmps49
    go_wp2
    go_ret
    exact ⟨_, rfl, Own.nil _ _, Below.refl _ _⟩
  · have hp : (0 : Int) < (n : Int) := by omega
    have hr := Lib.run_append_nil_zeros (P := Try.prog) w 33 3 33 5 i0 (.int .u8 0) .i64 .i64 Try.underlying33 Try.underlying3 hi0 hz0 n (by omega) (by omega) (by omega) (by rw [hz2]; omega)
    have hge := grownCap_ge w n 0 5
    have hle := grownCap_le_maxLen w n 0 5 (by simp only [maxLen]; omega)
    obtain ⟨q, hq⟩ : ∃ q, grownCap w n 0 5 = q := ⟨_, rfl⟩
    rw [hq] at hr hge hle
    have HLE := hide hle
    clear hle hq
    go_enter Try.func49, Try.ntmps49
    go_wp2_with (at_builtin; go_must (refine Lib.wpList_append_run _ rfl _ _ 33 3 rfl _ _ rfl rfl _ _ hr ?_))
    go_ret
    have hsz : (Builtin.zeroCells (Value.int IntKind.u8 0).cells n ++ Builtin.zeroCells (Value.int IntKind.u8 0).cells (q - n)).size = q := by
      simp [Builtin.zeroCells, Value.cells]
      omega
    refine ⟨_, rfl, .inr ⟨w.heap.size, q, rfl, Nat.le_refl _, by simp, HLE.out, fun i x hx => by simp at hx, fun i hi => ?_, fun i _ => ?_⟩, (Below.refl _ w).drew.alloc (Nat.le_refl _) _⟩
    · have h := cell_of_row (w.drew.alloc (.cells (Builtin.zeroCells (Value.int IntKind.u8 0).cells n ++ Builtin.zeroCells (Value.int IntKind.u8 0).cells (q - n)) 5)) w.heap.size i _ 5 (0, 0) (heap_alloc_new w.drew _)
      have h2 : i < (Builtin.zeroCells (Value.int IntKind.u8 0).cells n ++ Builtin.zeroCells (Value.int IntKind.u8 0).cells (q - n)).size := by omega
      rw [Array.getElem?_eq_getElem h2] at h
      have h3 := congrArg Option.isSome h
      exact h3.trans rfl
    · exact frozen_of_row _ w.heap.size i _ 5 (heap_alloc_new w.drew _)

theorem lens_take_le' (ls : List (List UInt8)) (k : Nat) : Lib.lens (ls.take k) ≤ Lib.lens ls := Lib.lens_take_le ls k

theorem flatten_length (ls : List (List UInt8)) : ls.flatten.length = Lib.lens ls := by
  rw [List.length_flatten]
  rfl

set_option maxRecDepth 20000 in
set_option maxHeartbeats 20000000 in
/-- slices.Concat. -/
theorem concat_any {w : World} {v : Value} {ls : List (List UInt8)} (hv : Bss w v ls) (hl : Lib.lens ls ≤ 20000000) :
    Calls Try.prog 28 #[v] w fun e w' => ∃ v', e = .returned v' ∧ Own w.heap.size w' v' ls.flatten ∧ Below w.heap.size w w' := by
  obtain ⟨p, n, c, rfl⟩ := hv.sl
  obtain ⟨hn, hm, _⟩ := hv.len
  have hm' : (n : Int) ≤ 9223372036854775807 := by unfold maxLen at hm; omega
  clear hm
  have HV := hide hv
  have HN := hide hn
  have HL := hide hl
  clear hv hn hl
  go_enter Try.func28, Try.ntmps28
  go_wp2
  go_loop [3, 5, 11] (fun a _ i => ∃ k z : Nat, k ≤ n ∧ i = .int .i64 k ∧ a = .int .i64 z ∧ z ≤ 20000000 ∧ z = Lib.lens (ls.take k)) (fun _ _ i => n - (intOf i).toNat)
  case atStart => exact ⟨0, 0, by omega, rfl, rfl, by omega, by rw [List.take_zero]; rfl⟩
  case round =>
    obtain ⟨k, z, hk, rfl, rfl, hz, hvk⟩ := hrel
    have HK := hide hvk
    clear hvk
    by_cases hkn : (k : Int) < (n : Int)
    · obtain ⟨b, o, q, m, d, l, rfl, hx, hcell, hby⟩ := HV.out.cellAt (k := k) (by omega)
      obtain ⟨hml, _⟩ := hby.len
      have hst := Lib.lens_take_succ ls k l hx
      have hle := Lib.lens_take_le ls (k + 1)
      have hsum : z + m ≤ 20000000 := by have := HL.out; have := HK.out; omega
      have HST := hide hst
      have HML := hide hml
      clear hst hle hx hby hml
      go_wp2
      go_round
      case rel => exact ⟨k + 1, z + m, by omega, by go_num, by go_num, hsum, by rw [HST.out, ← HK.out, HML.out]⟩
      case measure => simp [intOf]; omega
    · obtain rfl : k = n := by omega
      go_wp2_with fail
      refine (grow_nil z hz _).mono ?_
      rintro e w1 ⟨v1, rfl, ho1, hb1⟩
      go_wp2
      go_loopw [6, 8, 27] (fun a _ i wr => ∃ (j : Nat) (x : List UInt8), j ≤ k ∧ i = .int .i64 j ∧ x = (ls.take j).flatten ∧ x.length ≤ 20000000 ∧ Own w.heap.size wr a x ∧ Below w.heap.size w wr) (fun _ _ i _ => k - (intOf i).toNat)
      case atStart => exact ⟨0, [], by omega, rfl, by rw [List.take_zero]; rfl, by simp, ho1, hb1⟩
      case round =>
        obtain ⟨j, x, hj, rfl, hxj, hxl, hown, hb⟩ := hrel
        have HX := hide hxj
        have HO := hide hown
        have hbs := hb.size
        clear hxj hown ho1
        by_cases hjk : (j : Int) < (k : Int)
        · obtain ⟨b, o, q, m, d, l, rfl, hx, hcell, hby⟩ := (HV.out.below hb).cellAt (k := j) (by omega)
          have hfl : x ++ l = (ls.take (j + 1)).flatten := by
            rw [List.take_add_one, hx, HX.out]
            simp
          have hle : (x ++ l).length ≤ 20000000 := by
            rw [hfl, flatten_length]
            exact Nat.le_trans (Lib.lens_take_le ls (j + 1)) HL.out
          have hle' : x.length + l.length ≤ 140737488355328 := by
            have := hle
            rw [List.length_append] at this
            omega
          have HF := hide hfl
          have HLE := hide hle
          have HBY := hide hby
          clear hfl hle hx hby
          go_wp2_with (at_builtin; go_must (refine wpList_append_by rfl _ _ rfl rfl rfl rfl HO.out HBY.out hle' hbs ?_); intro v2 w2 ho2 _ hb2 _)
          have hb3 := hb.trans hb2
          go_roundw
          case rel => exact ⟨j + 1, x ++ l, by omega, by go_num, HF.out, HLE.out, ho2, hb3⟩
          case measure => simp [intOf]; omega
        · obtain rfl : j = k := by omega
          go_wp2
          go_ret
          refine ⟨_, rfl, ?_, hb⟩
          have := HO.out
          rwa [HX.out, HN.out, List.take_length] at this
theorem two_parts {w : World} {v u : Value} {l m : List UInt8} (h : By w v l) (h2 : By w u m) : Bss (w.alloc (.cells #[v, u] 33)) (.slice (some ⟨w.heap.size, 0, none⟩) 2 2) [l, m] :=
  Bss.new (vs := [v, u]) rfl (by decide) rfl fun i u m hu hm => by
    match i, hu, hm with
    | 0, hu, hm => simp at hu hm; subst hu hm; exact h
    | 1, hu, hm => simp at hu hm; subst hu hm; exact h2



end Go.Proofs.Ythcakinkioniaab
