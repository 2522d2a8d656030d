/- The document's Check of a reply. -/
import Derived.Test.YtfbndbmhnpleoaaTSmall
namespace Go.Proofs.Ytfbndbmhnpleoaa
set_option linter.unusedVariables false
set_option linter.unusedSimpArgs false
open Go.RowKit

/-- What a check says. -/
def ChkPost (w : World) (t : Bool) (e : Ending) (w' : World) : Prop := e = .returned (.int .i64 (if t then 0 else 1)) ∧ Below w.heap.size w w'
/-- What the document's 'numbers' gives. -/
def NumsPost8 (w0 w : World) (l : List Int) (e : Ending) (w' : World) : Prop := ∃ g, e = .returned (.slice (some ⟨g, 0, none⟩) 8 8) ∧ NumsAt w' g l ∧ w0.heap.size ≤ g ∧ Below w0.heap.size w w'
set_option maxRecDepth 200000 in
set_option maxHeartbeats 2000000 in
theorem refNumbers_any (w : World) (x : Rp) : Calls Try.prog 37 #[rpV x] w (NumsPost8 w w x.nums) := by
  obtain ⟨e1, e2, e3, e4, e5, e6, e7, e8⟩ := x
  unfold rpV
  dsimp only
  go_enter Try.func37, Try.ntmps37
  go_wp2
  go_ret
  exact ⟨_, rfl, nums_new _ [e1, e2, e3, e4, e5, e6, e7, e8] (by simp), by omega, ((Below.refl _ _).alloc (Nat.le_refl _) _).alloc (by simp) _⟩

set_option maxRecDepth 200000 in
set_option maxHeartbeats 2000000 in
theorem refCheck_any (w : World) (x : Rp) : Calls Try.prog 22 #[rpV x] w (ChkPost w x.ok) := by
  have HN := fun w => refNumbers_any w x
  obtain ⟨l, hl⟩ : ∃ l, x.nums = l := ⟨_, rfl⟩
  have hll : l.length = 8 := by rw [← hl]; rfl
  have HT : Hid (x.ok = l.all n40) := hide (by rw [← hl]; rfl)
  rw [hl] at HN
  obtain ⟨t, ht⟩ : ∃ t, x.ok = t := ⟨_, rfl⟩
  rw [ht] at HT ⊢
  clear hl ht
  obtain ⟨e1, e2, e3, e4, e5, e6, e7, e8⟩ := x
  unfold rpV at *
  dsimp only at *
  have HL := hide hll
  clear hll
  go_enter Try.func22, Try.ntmps22
  go_wp2_with fail
  refine (HN _).mono ?_
  rintro e w1 ⟨g, rfl, hn, hg, hb⟩
  have HG := hide (((Below.refl w.heap.size w).alloc (Nat.le_refl _) _).trans (hb.mono (by simp)))
  clear hb hg
  go_wp2
  go_loop [8] (fun i => ∃ k : Nat, k ≤ 8 ∧ i = .int .i64 k ∧ Hid (l.all n40 = (l.drop k).all n40)) (fun i => 8 - (intOf i).toNat)
  case atStart => exact ⟨0, by omega, rfl, hide rfl⟩
  case round =>
    obtain ⟨k, hk, rfl, HK⟩ := hrel
    by_cases hlt : k < 8
    · have hlt' : k < l.length := by have := HL.out; omega
      obtain ⟨n, hn'⟩ : ∃ n, l[k]? = some n := ⟨_, List.getElem?_eq_getElem hlt'⟩
      have hc := hn k n hn'
      have HD := hide (all_drop hn')
      by_cases h0 : n < 0
      · have HF : Hid (t = false) := hide (by rw [HT.out, HK.out, HD.out, n40_no1 h0]; rfl)
        clear hn' hlt'
        go_wp2
        go_ret
        exact ⟨by simp only [HF.out]; rfl, HG.out⟩
      · by_cases h1 : n > 1099511627776
        · have HF : Hid (t = false) := hide (by rw [HT.out, HK.out, HD.out, n40_no2 h1]; rfl)
          clear hn' hlt'
          go_wp2
          go_ret
          exact ⟨by simp only [HF.out]; rfl, HG.out⟩
        · have HY : Hid (l.all n40 = (l.drop (k + 1)).all n40) := hide (by rw [HK.out, HD.out, n40_iff.2 ⟨by omega, by omega⟩]; rfl)
          clear hn' hlt'
          go_wp2
          go_round
          case rel => exact ⟨k + 1, by omega, by go_num, HY⟩
          case measure => simp [intOf]; omega
    · have HF : Hid (t = true) := hide (by rw [HT.out, HK.out, List.drop_of_length_le (by have := HL.out; omega)]; rfl)
      go_wp2
      go_ret
      exact ⟨by simp only [HF.out]; rfl, HG.out⟩

end Go.Proofs.Ytfbndbmhnpleoaa
