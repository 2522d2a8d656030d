/- Slices of byte slices in memory; the sum of parts, and all parts joined. -/
import Derived.Test.YthcakinkioniaaaCrc
namespace Go.Proofs.Ythcakinkioniaaa
open Go.RowKit

/-- The value v is a slice of slices that read as the lists ls. -/
def Bss (w : World) (v : Value) (ls : List (List UInt8)) : Prop :=
  ∃ (p : Option Addr) (c : Nat), v = .slice p ls.length c ∧ ls.length ≤ c ∧ c ≤ maxLen ∧ (p = none → c = 0) ∧
    ∀ a, p = some a → ∀ (i : Nat) l, ls[i]? = some l → ∃ u, w.cell? (a.add i) = some u ∧ By w u l

theorem Bss.nil (w : World) : Bss w (.slice none 0 0) [] := ⟨none, 0, rfl, by simp, by simp [maxLen], fun _ => rfl, fun a h => by cases h⟩

theorem Bss.below {w w' : World} {v : Value} {ls : List (List UInt8)} (h : Bss w v ls) (hb : Below w.heap.size w w') : Bss w' v ls := by
  obtain ⟨p, c, rfl, hl, hm, hn, hc⟩ := h
  refine ⟨p, c, rfl, hl, hm, hn, fun a e i l hi => ?_⟩
  obtain ⟨u, hu, hbu⟩ := hc a e i l hi
  exact ⟨u, (hb.cell (lt_of_cell hu)).trans hu, hbu.below hb⟩

theorem Bss.sl {w : World} {v : Value} {ls : List (List UInt8)} (h : Bss w v ls) : ∃ p n c, v = .slice p n c := by
  obtain ⟨p, c, e, _⟩ := h
  exact ⟨p, _, c, e⟩

theorem Bss.len {w : World} {p : Option Addr} {n c : Nat} {ls : List (List UInt8)} (h : Bss w (.slice p n c) ls) : n = ls.length ∧ n ≤ maxLen ∧ n ≤ c := by
  obtain ⟨p', c', e, hl, hm, _⟩ := h
  injection e with _ e2 e3
  omega

/-- The cells of a slice of slices, one by one. -/
theorem Bss.cellAt {w : World} {p : Option Addr} {n c : Nat} {ls : List (List UInt8)} (h : Bss w (.slice p n c) ls) {k : Nat} (hk : k < n) :
    ∃ (b o : Nat) (q : Option Addr) (m d : Nat) (l : List UInt8), p = some ⟨b, o, none⟩ ∧ ls[k]? = some l ∧ w.cell? ⟨b, o + k, none⟩ = some (.slice q m d) ∧ By w (.slice q m d) l := by
  have hn := h.len.1
  obtain ⟨p', c', e, hl, hm, hn', hc⟩ := h
  injection e with e1 e2 e3
  subst e1 e3
  rcases p with _ | a
  · have := hn' rfl
    omega
  · have hkl : k < ls.length := by omega
    obtain ⟨u, h1, hb⟩ := hc a rfl k ls[k] (List.getElem?_eq_getElem hkl)
    obtain ⟨u0, h00, _⟩ := hc a rfl 0 ls[0] (List.getElem?_eq_getElem (by omega))
    obtain ⟨b, o, spot⟩ := a
    have hsp : spot = none := by
      have h2 := World.cell?_spot h00
      unfold Addr.add at h2
      rw [if_pos rfl] at h2
      exact h2
    subst hsp
    obtain ⟨q, m, d, rfl⟩ := hb.sl
    exact ⟨b, o, q, m, d, ls[k], rfl, List.getElem?_eq_getElem hkl, by rw [add_lit0] at h1; exact h1, hb⟩

theorem By.lenMax {w : World} {p : Option Addr} {n c : Nat} {l : List UInt8} (h : By w (.slice p n c) l) : (n : Int) ≤ 9223372036854775807 := by
  obtain ⟨p', c', e, hl, hm, _⟩ := h
  injection e with _ e2 e3
  unfold maxLen at hm
  omega

theorem Bss.of_parts {w : World} {b o n c : Nat} {vs : List Value} {ls : List (List UInt8)} (hn : n = ls.length) (hc : n ≤ c) (hm : c ≤ maxLen) (hl : vs.length = ls.length)
    (hcell : ∀ (i : Nat) v, vs[i]? = some v → w.cell? ⟨b, o + i, none⟩ = some v) (h : ∀ (i : Nat) v l, vs[i]? = some v → ls[i]? = some l → By w v l) : Bss w (.slice (some ⟨b, o, none⟩) n c) ls := by
  subst hn
  refine ⟨_, c, rfl, hc, hm, (fun e => by cases e), fun a e i l hi => ?_⟩
  injection e with e
  subst e
  have hil : i < vs.length := by rw [hl]; exact (List.getElem?_eq_some_iff.1 hi).1
  exact ⟨vs[i], by rw [add_lit0]; exact hcell i _ (List.getElem?_eq_getElem hil), h i _ l (List.getElem?_eq_getElem hil) hi⟩

theorem Bss.new {w : World} {t : TypeId} {n : Nat} {vs : List Value} {ls : List (List UInt8)} (hn : n = ls.length) (hm : n ≤ maxLen) (hl : vs.length = ls.length) (h : ∀ (i : Nat) v l, vs[i]? = some v → ls[i]? = some l → By w v l) :
    Bss (w.alloc (.cells vs.toArray t)) (.slice (some ⟨w.heap.size, 0, none⟩) n n) ls := by
  refine Bss.of_parts hn (Nat.le_refl _) hm hl (fun i v hv => ?_) fun i v l hv hl' => (h i v l hv hl').alloc _
  rw [Nat.zero_add, cell_of_row _ _ i vs.toArray t (0, 0) (heap_alloc_new w _)]
  simpa using hv

theorem Bss.parts {w : World} {b o n c : Nat} {ls : List (List UInt8)} (h : Bss w (.slice (some ⟨b, o, none⟩) n c) ls) : ∃ vs, Lib.PartsAt w ⟨b, o, none⟩ vs ls := by
  have hn := h.len.1
  obtain ⟨p', c', e, hl, hm, hn', hc⟩ := h
  injection e with e1 e2 e3
  subst e1 e3
  refine ⟨(List.range ls.length).map fun i => (w.cell? ⟨b, o + i, none⟩).getD undef, by simp, fun i v hv => ?_, fun i v l hv hl' => ?_⟩
  all_goals
    have hi : i < ls.length := by have := (List.getElem?_eq_some_iff.1 hv).1; simpa using this
    obtain ⟨u, hu, hb⟩ := hc _ rfl i ls[i] (List.getElem?_eq_getElem hi)
    rw [add_lit0] at hu
    simp only [List.getElem?_map, List.getElem?_range hi, Option.map_some, Option.some.injEq, hu, Option.getD_some] at hv
    subst hv
  · rw [add_lit0]
    exact hu
  · rw [List.getElem?_eq_getElem hi] at hl'
    injection hl' with hl'
    subst hl'
    exact hb.holds

set_option maxRecDepth 200000 in
set_option maxHeartbeats 1000000 in
/-- wire.Sum. -/
theorem wireSum_any {w : World} {v : Value} {ls : List (List UInt8)} (hv : Bss w v ls) :
    Calls Try.prog 23 #[v] w fun e w' => e = .returned (.int .u32 (crc ls.flatten : Nat)) ∧ w = w' := by
  obtain ⟨p, n, c, rfl⟩ := hv.sl
  obtain ⟨hn, hm, _⟩ := hv.len
  have hm' : (n : Int) ≤ 9223372036854775807 := by unfold maxLen at hm; omega
  clear hm
  have HV := hide hv
  have HN := hide hn
  clear hv hn
  go_enter Try.func23, Try.ntmps23
  go_wp2
  go_loop [3, 5, 7, 10, 14, 15, 16] (fun a _ _ i _ _ _ => ∃ k v : Nat, k ≤ n ∧ i = .int .i64 k ∧ a = .int .u32 v ∧ v < 4294967296 ∧ v = crcF 4294967295 (ls.take k).flatten) (fun _ _ _ i _ _ _ => n - (intOf i).toNat)
  case atStart => exact ⟨0, 4294967295, by omega, rfl, rfl, by omega, by rw [List.take_zero]; rfl⟩
  case round =>
    obtain ⟨k, v, hk, rfl, rfl, hv, hvk⟩ := hrel
    have HK := hide hvk
    clear hvk
    by_cases hkn : (k : Int) < (n : Int)
    · obtain ⟨b, o, q, m, d, l, rfl, hx, hcell, hby⟩ := HV.out.cellAt (k := k) (by omega)
      have hmm := hby.lenMax
      obtain ⟨hml, _⟩ := hby.len
      have HML := hide hml
      have HX := hide hx
      have HBY := hide hby
      clear hx hby hml
      go_wp2
      clear hcell
      go_loop [3, 7, 16] (fun a _ i => ∃ j u : Nat, j ≤ m ∧ i = .int .i64 j ∧ a = .int .u32 u ∧ u < 4294967296 ∧ u = crcF v (l.take j)) (fun _ _ i => m - (intOf i).toNat)
      case atStart => exact ⟨0, v, by omega, rfl, rfl, hv, by rw [List.take_zero]; rfl⟩
      case round =>
        obtain ⟨j, u, hj, rfl, rfl, hu, huj⟩ := hrel
        have HU := hide huj
        clear huj
        by_cases hjm : (j : Int) < (m : Int)
        · obtain ⟨b2, o2, x, rfl, hxj, hcellj⟩ := HBY.out.cellAt (k := j) (by omega)
          have HXJ := hide hxj
          clear hxj
          go_wp2_with fail
          refine (sumByte_any u hu x _).mono ?_
          rintro e w2 ⟨rfl, rfl⟩
          have hlt := stepB_lt hu x
          obtain ⟨z, hz⟩ : ∃ z, stepB u x = z := ⟨_, rfl⟩
          rw [hz] at hlt ⊢
          have HZ := hide hz
          clear hz hcellj
          go_wp2
          go_round
          case rel =>
            refine ⟨j + 1, z, by omega, by go_num, rfl, hlt, ?_⟩
            rw [List.take_add_one, HXJ.out, Option.toList_some, crcF_append, ← HU.out, crcF_cons, HZ.out]
            rfl
          case measure => simp [intOf]; omega
        · obtain rfl : j = m := by omega
          go_wp2
          go_round
          case rel =>
            refine ⟨k + 1, u, by omega, by go_num, rfl, hu, ?_⟩
            rw [List.take_add_one, HX.out, Option.toList_some, List.flatten_append, crcF_append, ← HK.out, HU.out, HML.out, List.take_length]
            simp
          case measure => simp [intOf]; omega
    · obtain rfl : k = n := by omega
      go_wp2
      go_ret
      have e : v = crc ls.flatten := by
        rw [HK.out, HN.out, List.take_length]
        rfl
      rw [e]
      exact ⟨rfl, rfl⟩
end Go.Proofs.Ythcakinkioniaaa
