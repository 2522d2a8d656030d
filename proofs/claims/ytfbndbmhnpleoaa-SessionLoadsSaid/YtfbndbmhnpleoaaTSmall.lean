/- What a table's calls lean on: made, mayCount, numbers, mayTell, mayStand, Check; New. -/
import Derived.Test.YtfbndbmhnpleoaaTMem
namespace Go.Proofs.Ytfbndbmhnpleoaa
set_option linter.unusedVariables false
set_option linter.unusedSimpArgs false
open Go.RowKit

set_option maxRecDepth 200000 in
set_option maxHeartbeats 1000000 in
theorem made_any {w : World} {g b : Nat} (c0 : w.cell? ⟨g, 0, none⟩ = some (.map (some b))) : Calls Try.prog 25 #[.pointer (some ⟨g, 0, none⟩)] w fun e w' => e = .returned (.bool true) ∧ Chg w w' (fun _ => False) := by
  have hneq := run_some_map b
  go_enter Try.func25, Try.ntmps25
  go_wp2
  go_ret
  exact ⟨rfl, Chg.refl _ _⟩
set_option maxRecDepth 200000 in
set_option maxHeartbeats 1000000 in
theorem made_none (w : World) : Calls Try.prog 25 #[.pointer none] w fun e w' => e = .returned (.bool false) ∧ Chg w w' (fun _ => False) := by
  go_enter Try.func25, Try.ntmps25
  go_wp2
  go_ret
  exact ⟨rfl, Chg.refl _ _⟩
set_option maxRecDepth 200000 in
set_option maxHeartbeats 1000000 in
theorem made_empty {w : World} {g : Nat} (c0 : w.cell? ⟨g, 0, none⟩ = some (.map none)) : Calls Try.prog 25 #[.pointer (some ⟨g, 0, none⟩)] w fun e w' => e = .returned (.bool false) ∧ Chg w w' (fun _ => False) := by
  have hneq := run_none_map
  go_enter Try.func25, Try.ntmps25
  go_wp2
  go_ret
  exact ⟨rfl, Chg.refl _ _⟩

theorem c40_no1 {n : Int} (h : ¬ 1 ≤ n) : c40 n = false := by unfold c40; simp [h]
theorem c40_no2 {n : Int} (h : ¬ n ≤ 1099511627776) : c40 n = false := by unfold c40; simp [h]
theorem c40_yes {n : Int} (h1 : 1 ≤ n) (h2 : n ≤ 1099511627776) : c40 n = true := c40_iff.2 ⟨h1, h2⟩
set_option maxRecDepth 200000 in
set_option maxHeartbeats 1000000 in
theorem count_any (w : World) (n : Int) : Calls Try.prog 26 #[.int .i64 n] w fun e w' => e = .returned (.bool (c40 n)) ∧ w = w' := by
  by_cases h1 : 1 ≤ n
  · by_cases h2 : n ≤ 1099511627776
    · have HC := hide (c40_yes h1 h2)
      go_enter Try.func26, Try.ntmps26
      go_wp2
      go_ret
      exact ⟨by rw [HC.out]; rfl, rfl⟩
    · have HC := hide (c40_no2 h2)
      go_enter Try.func26, Try.ntmps26
      go_wp2
      go_ret
      exact ⟨by rw [HC.out]; rfl, rfl⟩
  · have HC := hide (c40_no1 h1)
    go_enter Try.func26, Try.ntmps26
    go_wp2
    go_ret
    exact ⟨by rw [HC.out]; rfl, rfl⟩

/-- A slice of numbers that reads as l. -/
def NumsAt (w : World) (g : Nat) (l : List Int) : Prop := ∀ (i : Nat) n, l[i]? = some n → w.cell? ⟨g, i, none⟩ = some (.int .i64 n)
/-- What 'numbers' gives. -/
def NumsPost (w0 w : World) (l : List Int) (e : Ending) (w' : World) : Prop := ∃ g, e = .returned (.slice (some ⟨g, 0, none⟩) 11 11) ∧ NumsAt w' g l ∧ w0.heap.size ≤ g ∧ Below w0.heap.size w w'

theorem nums_new (W : World) (l : List Int) {g : Nat} (hg : g = W.heap.size) : NumsAt (W.alloc (.cells (l.map (Value.int .i64)).toArray 3)) g l := by
  intro i n hi
  subst hg
  rw [World.cell?_alloc_new]
  simp [hi]

set_option maxRecDepth 200000 in
set_option maxHeartbeats 2000000 in
theorem numbers_any (w : World) (x : St) : Calls Try.prog 42 #[stV x] w (NumsPost w w x.nums) := by
  obtain ⟨s, q, a, ⟨e1, e2, e3, e4, e5, e6, e7, e8⟩⟩ := x
  unfold stV
  dsimp only
  go_enter Try.func42, Try.ntmps42
  go_wp2
  go_region
  all_goals
    go_wp2
    go_ret
    refine ⟨_, rfl, nums_new _ [s, q, a, e1, e2, e3, e4, e5, e6, e7, e8] (by simp), by omega, ?_⟩
    exact (((((Below.refl _ _).alloc (Nat.le_refl _) _).alloc (by simp) _).alloc (by simp; omega) _).alloc (by simp; omega) _).trans (bdrew _ 1)

/-- All numbers from the k-th on. -/
theorem all_drop {l : List Int} {k : Nat} {n : Int} (h : l[k]? = some n) : (l.drop k).all n40 = (n40 n && (l.drop (k + 1)).all n40) := by
  obtain ⟨hk, rfl⟩ := List.getElem?_eq_some_iff.1 h
  rw [List.drop_eq_getElem_cons hk, List.all_cons]
theorem n40_no1 {n : Int} (h : n < 0) : n40 n = false := by
  cases hb : n40 n
  · rfl
  · have := n40_iff.1 hb; omega
theorem n40_no2 {n : Int} (h : 1099511627776 < n) : n40 n = false := by
  cases hb : n40 n
  · rfl
  · have := n40_iff.1 hb; omega
set_option maxRecDepth 200000 in
set_option maxHeartbeats 2000000 in
theorem tell_any (w : World) (x : St) : Calls Try.prog 32 #[stV x] w fun e w' => e = .returned (.bool x.tell) ∧ Below w.heap.size w w' := by
  have HN := fun w => numbers_any w x
  obtain ⟨l, hl⟩ : ∃ l, x.nums = l := ⟨_, rfl⟩
  have hll : l.length = 11 := by rw [← hl]; rfl
  have HT : Hid (x.tell = l.all n40) := hide (by rw [← hl]; rfl)
  rw [hl] at HN
  obtain ⟨t, ht⟩ : ∃ t, x.tell = t := ⟨_, rfl⟩
  rw [ht] at HT ⊢
  clear hl ht
  obtain ⟨s, q, a, ⟨e1, e2, e3, e4, e5, e6, e7, e8⟩⟩ := x
  unfold stV at *
  dsimp only at *
  have HL := hide hll
  clear hll
  go_enter Try.func32, Try.ntmps32
  go_wp2_with fail
  refine (HN _).mono ?_
  rintro e w1 ⟨g, rfl, hn, hg, hb⟩
  have HG := hide (((Below.refl w.heap.size w).alloc (Nat.le_refl _) _).trans (hb.mono (by simp)))
  clear hb hg
  go_wp2
  go_loop [8] (fun i => ∃ k : Nat, k ≤ 11 ∧ i = .int .i64 k ∧ Hid (l.all n40 = (l.drop k).all n40)) (fun i => 11 - (intOf i).toNat)
  case atStart => exact ⟨0, by omega, rfl, hide rfl⟩
  case round =>
    obtain ⟨k, hk, rfl, HK⟩ := hrel
    by_cases hlt : k < 11
    · have hlt' : k < l.length := by have := HL.out; omega
      obtain ⟨n, hn'⟩ : ∃ n, l[k]? = some n := ⟨_, List.getElem?_eq_getElem hlt'⟩
      have hc := hn k n hn'
      have HD := hide (all_drop hn')
      by_cases h0 : n < 0
      · have HF : Hid (t = false) := hide (by rw [HT.out, HK.out, HD.out, n40_no1 h0]; rfl)
        clear hn' hlt'
        go_wp2
        go_ret
        exact ⟨by rw [HF.out]; rfl, HG.out⟩
      · by_cases h1 : n > 1099511627776
        · have HF : Hid (t = false) := hide (by rw [HT.out, HK.out, HD.out, n40_no2 h1]; rfl)
          clear hn' hlt'
          go_wp2
          go_ret
          exact ⟨by rw [HF.out]; rfl, HG.out⟩
        · have HY : Hid (l.all n40 = (l.drop (k + 1)).all n40) := hide (by rw [HK.out, HD.out, n40_iff.2 ⟨by omega, by omega⟩]; rfl)
          clear hn' hlt'
          go_wp2
          go_round
          case rel => exact ⟨k + 1, by omega, by go_num, HY⟩
          case measure => simp [intOf]; omega
    · have HF : Hid (t = true) := hide (by rw [HT.out, HK.out, List.drop_of_length_le (by have := HL.out; omega)]; rfl)
      go_wp2
      go_ret
      exact ⟨by rw [HF.out]; rfl, HG.out⟩

set_option maxRecDepth 200000 in
set_option maxHeartbeats 2000000 in
theorem stand_any (w : World) (x : St) : Calls Try.prog 19 #[stV x] w fun e w' => e = .returned (.bool x.ok) ∧ Below w.heap.size w w' := by
  have HT := fun w => tell_any w x
  have hok : x.ok = (c40 x.s && c40 x.a && x.tell) := rfl
  obtain ⟨t, ht⟩ : ∃ t, x.tell = t := ⟨_, rfl⟩
  obtain ⟨u, hu⟩ : ∃ u, x.ok = u := ⟨_, rfl⟩
  rw [ht] at HT hok
  rw [hu] at hok ⊢
  clear ht hu
  obtain ⟨s, q, a, ⟨e1, e2, e3, e4, e5, e6, e7, e8⟩⟩ := x
  unfold stV at *
  dsimp only at *
  have HC1 := fun w => count_any w s
  have HC2 := fun w => count_any w a
  cases h1 : c40 s
  · rw [h1] at HC1 hok
    have HO : Hid (u = false) := hide (by rw [hok]; rfl)
    clear hok h1
    go_enter Try.func19, Try.ntmps19
    go_wp2_with fail
    refine (HC1 _).mono ?_
    rintro e w1 ⟨rfl, rfl⟩
    go_wp2
    go_ret
    exact ⟨by rw [HO.out]; rfl, (Below.refl _ _).alloc (Nat.le_refl _) _⟩
  · cases h2 : c40 a
    · rw [h1] at HC1 hok
      rw [h2] at HC2 hok
      have HO : Hid (u = false) := hide (by rw [hok]; rfl)
      clear hok h1 h2
      go_enter Try.func19, Try.ntmps19
      go_wp2_with fail
      refine (HC1 _).mono ?_
      rintro e w1 ⟨rfl, rfl⟩
      go_wp2_with fail
      refine (HC2 _).mono ?_
      rintro e w1 ⟨rfl, rfl⟩
      go_wp2
      go_ret
      exact ⟨by rw [HO.out]; rfl, (Below.refl _ _).alloc (Nat.le_refl _) _⟩
    · rw [h1] at HC1 hok
      rw [h2] at HC2 hok
      have HO : Hid (u = t) := hide (by rw [hok]; rfl)
      clear hok h1 h2
      go_enter Try.func19, Try.ntmps19
      go_wp2_with fail
      refine (HC1 _).mono ?_
      rintro e w1 ⟨rfl, rfl⟩
      go_wp2_with fail
      refine (HC2 _).mono ?_
      rintro e w1 ⟨rfl, rfl⟩
      go_wp2_with fail
      refine (HT _).mono ?_
      rintro e w1 ⟨rfl, hb⟩
      have HB := hide (((Below.refl w.heap.size w).alloc (Nat.le_refl _) _).trans (hb.mono (by simp)))
      clear hb
      go_wp2
      go_ret
      exact ⟨by rw [HO.out]; rfl, HB.out⟩

theorem run_makeTm (w : World) : (Instr.makeMap 54 none).run Try.prog w = .ok (.map (some w.heap.size)) (w.alloc (.map #[] 0)) := by
  kernel_rfl
set_option maxRecDepth 200000 in
set_option maxHeartbeats 2000000 in
theorem new_any (w : World) : Calls Try.prog 10 #[] w fun e w' => e = .returned (.pointer (some ⟨w.heap.size + 1, 0, none⟩)) ∧ TbIs w' (w.heap.size + 1) w.heap.size [] ∧ Below w.heap.size w w' := by
  have hmk0 := run_makeTm w
  go_enter Try.func10, Try.ntmps10
  go_wp2
  go_ret
  have hs : (w.alloc (.map #[] 0)).heap.size = w.heap.size + 1 := by simp
  have b1 := (Below.refl w.heap.size w).alloc (Nat.le_refl _) (.map #[] 0)
  refine ⟨rfl, ⟨?_, by omega, ⟨_, (tm_new w).grown (World.grownBy_alloc _ _ none) (by simp)⟩, TbOk.nil⟩, b1.alloc b1.size _⟩
  rw [← hs]
  exact cell_of_row _ _ 0 _ 56 (0, 0) (heap_alloc_new (w.alloc (.map #[] 0)) _)
end Go.Proofs.Ytfbndbmhnpleoaa
