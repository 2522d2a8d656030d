/- Slices of slices of spans, and Go's Concat of them. -/
import Derived.Test.YtimjplkehlgelaaFObj
import Derived.Lib.AppendZeros
namespace Go.Proofs.Ytimjplkehlgelaa
set_option linter.unusedVariables false
set_option linter.unusedSimpArgs false
open Go.RowKit

/-- The value v is a slice of slices that read as the lists ls. -/
def Sss (w : World) (v : Value) (ls : List (List Sp)) : Prop :=
  ∃ (p : Option Addr) (c : Nat), v = .slice p ls.length c ∧ ls.length ≤ c ∧ c ≤ maxLen ∧ (p = none → c = 0) ∧
    ∀ a, p = some a → ∀ (i : Nat) l, ls[i]? = some l → ∃ u, w.cell? (a.add i) = some u ∧ Sps w u l

theorem Sss.nil (w : World) : Sss w (.slice none 0 0) [] := ⟨none, 0, rfl, by simp, by simp [maxLen], fun _ => rfl, fun a h => by cases h⟩

theorem Sss.below {w w' : World} {v : Value} {ls : List (List Sp)} (h : Sss w v ls) (hb : Below w.heap.size w w') : Sss w' v ls := by
  obtain ⟨p, c, rfl, hl, hm, hn, hc⟩ := h
  refine ⟨p, c, rfl, hl, hm, hn, fun a e i l hi => ?_⟩
  obtain ⟨u, hu, hbu⟩ := hc a e i l hi
  exact ⟨u, (hb.cell (lt_of_cell hu)).trans hu, hbu.below hb⟩

theorem Sss.sl {w : World} {v : Value} {ls : List (List Sp)} (h : Sss w v ls) : ∃ p n c, v = .slice p n c := by
  obtain ⟨p, c, e, _⟩ := h
  exact ⟨p, _, c, e⟩

theorem Sss.len {w : World} {p : Option Addr} {n c : Nat} {ls : List (List Sp)} (h : Sss w (.slice p n c) ls) : n = ls.length ∧ n ≤ maxLen ∧ n ≤ c := by
  obtain ⟨p', c', e, hl, hm, _⟩ := h
  injection e with _ e2 e3
  omega

/-- The cells of a slice of slices, one by one. -/
theorem Sss.cellAt {w : World} {p : Option Addr} {n c : Nat} {ls : List (List Sp)} (h : Sss w (.slice p n c) ls) {k : Nat} (hk : k < n) :
    ∃ (b o : Nat) (q : Option Addr) (m d : Nat) (l : List Sp), p = some ⟨b, o, none⟩ ∧ ls[k]? = some l ∧ w.cell? ⟨b, o + k, none⟩ = some (.slice q m d) ∧ Sps w (.slice q m d) l := by
  have hn := h.len.1
  obtain ⟨p', c', e, hl, hm, hn', hc⟩ := h
  injection e with e1 e2 e3
  subst e1 e3
  rcases p with _ | a
  · have := hn' rfl
    omega
  · have hkl : k < ls.length := by omega
    obtain ⟨u, h1, hb⟩ := hc a rfl k ls[k] (List.getElem?_eq_getElem hkl)
    obtain ⟨u0, h00, _⟩ := hc a rfl 0 ls[0] (List.getElem?_eq_getElem (by omega))
    obtain ⟨b, o, spot⟩ := a
    have hsp : spot = none := by
      have h2 := World.cell?_spot h00
      unfold Addr.add at h2
      rw [if_pos rfl] at h2
      exact h2
    subst hsp
    obtain ⟨q, m, d, rfl⟩ := hb.sl
    exact ⟨b, o, q, m, d, ls[k], rfl, List.getElem?_eq_getElem hkl, by rw [add_lit0] at h1; exact h1, hb⟩

theorem Sss.of_parts {w : World} {b o n c : Nat} {vs : List Value} {ls : List (List Sp)} (hn : n = ls.length) (hc : n ≤ c) (hm : c ≤ maxLen) (hl : vs.length = ls.length)
    (hcell : ∀ (i : Nat) v, vs[i]? = some v → w.cell? ⟨b, o + i, none⟩ = some v) (h : ∀ (i : Nat) v l, vs[i]? = some v → ls[i]? = some l → Sps w v l) : Sss w (.slice (some ⟨b, o, none⟩) n c) ls := by
  subst hn
  refine ⟨_, c, rfl, hc, hm, (fun e => by cases e), fun a e i l hi => ?_⟩
  injection e with e
  subst e
  have hil : i < vs.length := by rw [hl]; exact (List.getElem?_eq_some_iff.1 hi).1
  exact ⟨vs[i], by rw [add_lit0]; exact hcell i _ (List.getElem?_eq_getElem hil), h i _ l (List.getElem?_eq_getElem hil) hi⟩

theorem Sss.new {w : World} {t : TypeId} {n : Nat} {vs : List Value} {ls : List (List Sp)} (hn : n = ls.length) (hm : n ≤ maxLen) (hl : vs.length = ls.length) (h : ∀ (i : Nat) v l, vs[i]? = some v → ls[i]? = some l → Sps w v l) :
    Sss (w.alloc (.cells vs.toArray t)) (.slice (some ⟨w.heap.size, 0, none⟩) n n) ls := by
  refine Sss.of_parts hn (Nat.le_refl _) hm hl (fun i v hv => ?_) fun i v l hv hl' => (h i v l hv hl').below ((Below.refl _ _).alloc (Nat.le_refl _) _)
  rw [Nat.zero_add, cell_of_row _ _ i vs.toArray t (0, 0) (heap_alloc_new w _)]
  simpa using hv



def lensS (ls : List (List Sp)) : Nat := (ls.map List.length).sum
theorem lensS_take_le (ls : List (List Sp)) (k : Nat) : lensS (ls.take k) ≤ lensS ls := by
  induction ls generalizing k with
  | nil => simp [lensS]
  | cons x r ih =>
    cases k with
    | zero => simp [lensS]
    | succ k =>
      have := ih k
      simp only [lensS, List.take_succ_cons, List.map_cons, List.sum_cons] at this ⊢
      omega
theorem lensS_take_succ (ls : List (List Sp)) (k : Nat) (l : List Sp) (h : ls[k]? = some l) : lensS (ls.take (k + 1)) = lensS (ls.take k) + l.length := by
  unfold lensS
  rw [List.take_add_one, h]
  simp
theorem flattenS_length (ls : List (List Sp)) : ls.flatten.length = lensS ls := by
  rw [List.length_flatten]
  rfl

set_option maxRecDepth 20000 in
set_option maxHeartbeats 400000 in
/-- slices.Grow of nil. -/
theorem growS_nil (n : Nat) (hn : n ≤ 1000000) (w : World) :
    Calls Try.prog 42 #[.slice none 0 0, .int .i64 (n : Int)] w fun e w' => ∃ v', e = .returned v' ∧ OwnS w.heap.size w' v' [] ∧ Below w.heap.size w w' := by
  obtain ⟨i0, hi0, hz0, hz1, hz2⟩ := info_parts Try.infoSp
  by_cases h0 : n = 0
  · subst h0
    go_enter Try.func42, Try.ntmps42
    go_wp2
    go_ret
    exact ⟨_, rfl, OwnS.nil _ _, Below.refl _ _⟩
  · have hp : (0 : Int) < (n : Int) := by omega
    have hr := Lib.run_append_nil_zeros (P := Try.prog) w 23 3 23 31 i0 (.agg #[.int .i64 0, .int .i64 0, .int .i64 0, .int .i64 0, .int .i64 0, .string ⟨#[]⟩]) .i64 .i64 Try.underlying23 Try.underlying3 hi0 hz0 n (by omega) (by rw [hz1]; omega) (by omega) (by rw [hz2]; omega)
    have hge := grownCap_ge w n 0 31
    have hle := grownCap_le_maxLen w n 0 31 (by simp only [maxLen]; omega)
    obtain ⟨q, hq⟩ : ∃ q, grownCap w n 0 31 = q := ⟨_, rfl⟩
    rw [hq] at hr hge hle
    have HLE := hide hle
    clear hle hq
    go_enter Try.func42, Try.ntmps42
    go_wp2_with (at_builtin; go_must (refine Lib.wpList_append_run _ rfl _ _ 23 3 rfl _ _ rfl rfl _ _ hr ?_))
    go_ret
    have hzl : ∀ k, (Builtin.zeroCells #[Value.int .i64 0, .int .i64 0, .int .i64 0, .int .i64 0, .int .i64 0, .string ⟨#[]⟩] k).size = k * 6 := fun k => by
      rw [size_zeroCells]
      rfl
    refine ⟨_, rfl, ⟨rfl, .inr ⟨w.heap.size, q, _, rfl, Nat.le_refl _, heap_alloc_new w.drew _, Nat.zero_le _, HLE.out, ?_, by simp⟩⟩, (Below.refl _ w).drew.alloc (Nat.le_refl _) _⟩
    rw [Array.size_append, hzl, hzl, ← Nat.add_mul]
    congr 1
    omega

set_option maxRecDepth 20000 in
set_option maxHeartbeats 20000000 in
/-- slices.Concat. -/
theorem concatS_any {w : World} {v : Value} {ls : List (List Sp)} (hv : Sss w v ls) (hl : lensS ls ≤ 1000000) :
    Calls Try.prog 22 #[v] w fun e w' => ∃ v', e = .returned v' ∧ OwnS w.heap.size w' v' ls.flatten ∧ Below w.heap.size w w' := by
  obtain ⟨p, n, c, rfl⟩ := hv.sl
  obtain ⟨hn, hm, _⟩ := hv.len
  have hm' : (n : Int) ≤ 9223372036854775807 := by unfold maxLen at hm; omega
  clear hm
  have HV := hide hv
  have HN := hide hn
  have HL := hide hl
  clear hv hn hl
  go_enter Try.func22, Try.ntmps22
  go_wp2
  go_loop [3, 5, 11] (fun a _ i => ∃ k z : Nat, k ≤ n ∧ i = .int .i64 k ∧ a = .int .i64 z ∧ z ≤ 1000000 ∧ z = lensS (ls.take k)) (fun _ _ i => n - (intOf i).toNat)
  case atStart => exact ⟨0, 0, by omega, rfl, rfl, by omega, by rw [List.take_zero]; rfl⟩
  case round =>
    obtain ⟨k, z, hk, rfl, rfl, hz, hvk⟩ := hrel
    have HK := hide hvk
    clear hvk
    by_cases hkn : (k : Int) < (n : Int)
    · obtain ⟨b, o, q, m, d, l, rfl, hx, hcell, hby⟩ := HV.out.cellAt (k := k) (by omega)
      have hml := hby.len.1
      have hst := lensS_take_succ ls k l hx
      have hle := lensS_take_le ls (k + 1)
      have hsum : z + m ≤ 1000000 := by have := HL.out; have := HK.out; omega
      have HST := hide hst
      have HML := hide hml
      clear hst hle hx hby hml
      go_wp2
      go_round
      case rel => exact ⟨k + 1, z + m, by omega, by go_num, by go_num, hsum, by rw [HST.out, ← HK.out, HML.out]⟩
      case measure => simp [intOf]; omega
    · obtain rfl : k = n := by omega
      go_wp2_with fail
      refine (growS_nil z hz _).mono ?_
      rintro e w1 ⟨v1, rfl, ho1, hb1⟩
      go_wp2
      go_loopw [6, 8, 27] (fun a _ i wr => ∃ (j : Nat) (x : List Sp), j ≤ k ∧ i = .int .i64 j ∧ x = (ls.take j).flatten ∧ x.length ≤ 1000000 ∧ OwnS w.heap.size wr a x ∧ Below w.heap.size w wr) (fun _ _ i _ => k - (intOf i).toNat)
      case atStart => exact ⟨0, [], by omega, rfl, by rw [List.take_zero]; rfl, by simp, ho1, hb1⟩
      case round =>
        obtain ⟨j, x, hj, rfl, hxj, hxl, hown, hb⟩ := hrel
        have HX := hide hxj
        have HO := hide hown
        have hbs := hb.size
        clear hxj hown ho1
        by_cases hjk : (j : Int) < (k : Int)
        · obtain ⟨b, o, q, m, d, l, rfl, hx, hcell, hby⟩ := (HV.out.below hb).cellAt (k := j) (by omega)
          have hfl : x ++ l = (ls.take (j + 1)).flatten := by
            rw [List.take_add_one, hx, HX.out]
            simp
          have hle : (x ++ l).length ≤ 1000000 := by
            rw [hfl, flattenS_length]
            exact Nat.le_trans (lensS_take_le ls (j + 1)) HL.out
          have hle' : (x.length + l.length) * 56 ≤ 140737488355328 := by
            have := hle
            rw [List.length_append] at this
            omega
          have HF := hide hfl
          have HLE := hide hle
          have HBY := hide hby
          clear hfl hle hx hby
          go_wp2_with (at_builtin; go_must (refine wpList_pushes rfl _ _ rfl rfl rfl rfl HO.out HBY.out hbs hle' ?_); intro v2 w2 ho2 hb2 hg2)
          have hb3 := hb.trans hb2
          go_roundw
          case rel => exact ⟨j + 1, x ++ l, by omega, by go_num, HF.out, HLE.out, ho2, hb3⟩
          case measure => simp [intOf]; omega
        · obtain rfl : j = k := by omega
          go_wp2
          go_ret
          refine ⟨_, rfl, ?_, hb⟩
          have := HO.out
          rwa [HX.out, HN.out, List.take_length] at this

theorem sss_two {w : World} {v u : Value} {l m : List Sp} (h : Sps w v l) (h2 : Sps w u m) : Sss (w.alloc (.cells #[v, u] 23)) (.slice (some ⟨w.heap.size, 0, none⟩) 2 2) [l, m] :=
  Sss.new (vs := [v, u]) rfl (by decide) rfl fun i u m hu hm => by
    match i, hu, hm with
    | 0, hu, hm => simp at hu hm; subst hu hm; exact h
    | 1, hu, hm => simp at hu hm; subst hu hm; exact h2
end Go.Proofs.Ytimjplkehlgelaa
