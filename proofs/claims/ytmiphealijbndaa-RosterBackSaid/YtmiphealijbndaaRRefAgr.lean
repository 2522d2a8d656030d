/- What a majority has reached: the document's Agreed. -/
import Derived.Test.YtmiphealijbndaaRAgr
namespace Go.Proofs.Ytmiphealijbndaa
set_option linter.unusedVariables false
set_option linter.unusedSimpArgs false
open Go.RowKit

/-- Those of the first k that have reached x. -/
def top (R : List Int) (x : Int) (n : Nat) : Bool := decide (n < R.length) && decide (x ≤ R.getD n 0)
def tops (R : List Int) (x : Int) (k : Nat) : List Int := ((List.range k).filter (top R x)).map fun (n : Nat) => (n : Int)
theorem tops_succ (R : List Int) (x : Int) (k : Nat) : tops R x (k + 1) = tops R x k ++ if top R x k then [(k : Int)] else [] := by
  unfold tops
  rw [List.range_succ, List.filter_append, List.map_append]
  congr 1
  by_cases h : top R x k = true
  · simp [h]
  · simp [h]
theorem tops_len (R : List Int) (x : Int) (k : Nat) : (tops R x k).length ≤ k := by
  unfold tops
  rw [List.length_map]
  have := List.length_filter_le (top R x) (List.range k)
  rwa [List.length_range] at this
theorem tops_mem {R : List Int} {x n : Int} (h : 0 ≤ n ∧ n < 7) : (tops R x 7).contains n = (decide (n.toNat < R.length) && decide (x ≤ R.getD n.toNat 0)) := by
  rw [Bool.eq_iff_iff, List.contains_iff_mem]
  unfold tops
  rw [List.mem_map]
  constructor
  · rintro ⟨m, hm, rfl⟩
    rw [List.mem_filter] at hm
    rw [Int.toNat_natCast]
    exact hm.2
  · intro hh
    exact ⟨n.toNat, List.mem_filter.2 ⟨List.mem_range.2 (by omega), hh⟩, by omega⟩
theorem among_tops {V : List Int} (h : okR V = true) (R : List Int) (x : Int) : among V (tops R x 7) = reach V R x := by
  unfold among reach
  exact List.countP_congr fun n hn => by rw [tops_mem (okR_mem h n hn)]
theorem maj_tops {V : List Int} (h : okR V = true) (R : List Int) (x : Int) : maj V (tops R x 7) = decide (V.length < 2 * reach V R x) := by
  unfold maj
  rw [h, among_tops h, Bool.true_and]
structure RefInv (V R : List Int) (k : Nat) (b : Int) : Prop where
  nn : 0 ≤ b
  at_ : b = 0 ∨ maj V (tops R b 7) = true
  up : ∀ x ∈ R.take k, b < x → maj V (tops R x 7) = false
theorem RefInv.done {V R : List Int} {b : Int} (h : RefInv V R R.length b) : agrV V R = b := by
  obtain ⟨h0, h1, h2⟩ := h
  rw [List.take_length] at h2
  by_cases hV : okR V = true
  · refine ((agrV_agr R hV).one h0 ?_ fun x hx hlt => ?_).symm
    · rcases h1 with h1 | h1
      · exact .inl h1
      · rw [maj_tops hV] at h1
        exact .inr (of_decide_eq_true h1)
    · have := h2 x hx hlt
      rw [maj_tops hV] at this
      exact of_decide_eq_false this
  · have e : okR V = false := by simpa using hV
    unfold agrV
    rw [e]
    rcases h1 with h1 | h1
    · rw [h1]
      rfl
    · unfold maj at h1
      rw [e] at h1
      cases h1
theorem RefInv.stay {V R : List Int} {k : Nat} {b x : Int} (h : RefInv V R k b) (hx : R[k]? = some x) (hm : b < x → maj V (tops R x 7) = false) : RefInv V R (k + 1) b := by
  refine ⟨h.nn, h.at_, fun y hy hlt => ?_⟩
  rw [List.take_add_one, hx] at hy
  rcases List.mem_append.1 hy with hy | hy
  · exact h.up y hy hlt
  · obtain rfl : y = x := by simpa using hy
    exact hm hlt
theorem RefInv.rise {V R : List Int} {k : Nat} {b x : Int} (h : RefInv V R k b) (hx : R[k]? = some x) (hlt : b < x) (hm : maj V (tops R x 7) = true) : RefInv V R (k + 1) x := by
  refine ⟨by have := h.nn; omega, .inr hm, fun y hy hlt2 => ?_⟩
  rw [List.take_add_one, hx] at hy
  rcases List.mem_append.1 hy with hy | hy
  · exact h.up y hy (by omega)
  · obtain rfl : y = x := by simpa using hy
    omega

set_option maxRecDepth 200000 in
set_option maxHeartbeats 4000000 in
theorem refAgreed_any {w : World} {v u : Value} {V R : List Int} (hv : Ns w v V) (hu : Ns w u R) : Calls Try.prog 28 #[v, u] w fun e w' => e = .returned (.int .i64 (agrV V R)) ∧ Below w.heap.size w w' := by
  have HV := hide hv
  have HU := hide hu
  obtain ⟨p, m, c, rfl⟩ := hv.sl
  obtain ⟨p2, m2, c2, rfl⟩ := hu.sl
  obtain ⟨rfl, hr1, hr2⟩ := hu.len
  have hrb : (R.length : Int) ≤ 9223372036854775807 := by unfold maxLen at hr2; omega
  clear hv hu hr1 hr2
  go_enter Try.func28, Try.ntmps28
  go_wp2_with fail
  go_loopw [5, 7, 8, 9, 12, 16] (fun b _ _ _ i _ wr => ∃ (k : Nat) (z : Int), k ≤ R.length ∧ i = .int .i64 k ∧ b = .int .i64 z ∧ Hid (RefInv V R k z ∧ Below w.heap.size w wr)) (fun _ _ _ _ i _ _ => R.length - (intOf i).toNat)
  case atStart => exact ⟨0, 0, by omega, rfl, rfl, hide ⟨⟨by omega, .inl rfl, by simp⟩, Below.refl _ _⟩⟩
  case round =>
    obtain ⟨k, z, hk, rfl, rfl, HR⟩ := hrel
    by_cases hlt : k < R.length
    · obtain ⟨x, hx⟩ : ∃ x, R[k]? = some x := ⟨_, List.getElem?_eq_getElem hlt⟩
      obtain ⟨g, o, rfl, hc⟩ := HU.out.at_ (by omega)
      have HC := hide hc
      have HX := hide hx
      have hcell := (HR.out.2.cell (lt_of_cell (hc k x hx))).trans (hc k x hx)
      clear hc hx
      go_wp2_with fail
      go_loopw [8, 9, 16] (fun v _ i wi => ∃ j : Nat, j ≤ 7 ∧ i = .int .i64 j ∧ (∃ p n c, v = .slice p n c) ∧ Hid (OwnN w.heap.size wi v (tops R x j) ∧ Below w.heap.size w wi)) (fun _ _ i _ => 7 - (intOf i).toNat)
      case atStart => exact ⟨0, by omega, rfl, ⟨_, _, _, rfl⟩, hide ⟨(show OwnN w.heap.size wr (.slice none 0 0) (tops R x 0) from OwnN.nil _ _), HR.out.2⟩⟩
      case round =>
        obtain ⟨j, hj, rfl, ⟨p3, n3, c3, rfl⟩, HI⟩ := hrel
        by_cases hj7 : j < 7
        · have HT := hide (tops_succ R x j)
          have HL := hide (tops_len R x j)
          have hjf : Hid (fits (j : Int)) := hide (by unfold fits; omega)
          by_cases hjr : j < R.length
          · obtain ⟨y, hy⟩ : ∃ y, R[j]? = some y := ⟨_, List.getElem?_eq_getElem hjr⟩
            have hcj := (HI.out.2.cell (lt_of_cell (HC.out j y hy))).trans (HC.out j y hy)
            have e0 : decide (j < R.length) = true := by simpa using hjr
            have HTP : Hid (top R x j = decide (x ≤ y)) := hide (by
              unfold top
              rw [decide_eq_true hjr, List.getD_eq_getElem?_getD, hy]
              rfl)
            clear hy
            by_cases hxy : x ≤ y
            · have e1 : decide (x ≤ y) = true := by simpa using hxy
              have HT2 : Hid (tops R x (j + 1) = tops R x j ++ [(j : Int)]) := hide (by rw [HT.out, HTP.out, e1]; rfl)
              clear HT HTP
              go_wp2_with (at_builtin; go_loud (refine wpList_pushN (w := wr) (v := .slice p3 n3 c3) (l := tops R x j) (B := w.heap.size) (H := wr.heap.size) rfl (.tmp 31) (.tmp 33) rfl rfl (j : Int) hjf.out rfl rfl rfl HI.out.1 HI.out.2.size (by have := HL.out; omega) ?_); intro v5 w5 ho5 hb5 hg5)
              obtain ⟨p5, n5, c5, rfl⟩ := ho5.ns.sl
              have HO5 := hide ho5
              have HB5 := hide (HI.out.2.trans hb5)
              clear ho5 hb5 hg5
              go_wp2
              go_roundw
              case rel => exact ⟨j + 1, by omega, by go_num, ⟨_, _, _, rfl⟩, hide ⟨by rw [HT2.out]; exact HO5.out, HB5.out⟩⟩
              case measure => simp [intOf]; omega
            · have e1 : decide (x ≤ y) = false := by simpa using hxy
              have HT2 : Hid (tops R x (j + 1) = tops R x j) := hide (by rw [HT.out, HTP.out, e1]; simp)
              clear HT HTP
              go_wp2
              go_roundw
              case rel => exact ⟨j + 1, by omega, by go_num, ⟨_, _, _, rfl⟩, hide ⟨by rw [HT2.out]; exact HI.out.1, HI.out.2⟩⟩
              case measure => simp [intOf]; omega
          · have e0 : decide (j < R.length) = false := by simpa using hjr
            have HT2 : Hid (tops R x (j + 1) = tops R x j) := hide (by
              rw [HT.out]
              unfold top
              rw [e0]
              simp)
            clear HT
            go_wp2
            go_roundw
            case rel => exact ⟨j + 1, by omega, by go_num, ⟨_, _, _, rfl⟩, hide ⟨by rw [HT2.out]; exact HI.out.1, HI.out.2⟩⟩
            case measure => simp [intOf]; omega
        · obtain rfl : j = 7 := by omega
          have HMJ := hide (refMajority_any (HV.out.below HI.out.2) HI.out.1.ns)
          unfold Maj at HMJ
          by_cases hzx : z < x
          · have e1 : decide (z < x) = true := by simpa using hzx
            obtain ⟨q, hq⟩ : ∃ q, maj V (tops R x 7) = q := ⟨_, rfl⟩
            rw [hq] at HMJ
            cases q
            · have HI2 : Hid (RefInv V R (k + 1) z) := hide (HR.out.1.stay HX.out fun _ => hq)
              clear hq hzx
              go_wp2_with fail
              refine HMJ.out.mono ?_
              rintro e w' ⟨rfl, rfl⟩
              go_wp2
              go_roundw
              case rel => exact ⟨k + 1, z, by omega, by go_num, rfl, hide ⟨HI2.out, HI.out.2⟩⟩
              case measure => simp [intOf]; omega
            · have HI2 : Hid (RefInv V R (k + 1) x) := hide (HR.out.1.rise HX.out hzx hq)
              clear hq hzx
              go_wp2_with fail
              refine HMJ.out.mono ?_
              rintro e w' ⟨rfl, rfl⟩
              go_wp2
              go_roundw
              case rel => exact ⟨k + 1, x, by omega, by go_num, rfl, hide ⟨HI2.out, HI.out.2⟩⟩
              case measure => simp [intOf]; omega
          · have e1 : decide (z < x) = false := by simpa using hzx
            have HI2 : Hid (RefInv V R (k + 1) z) := hide (HR.out.1.stay HX.out fun h => absurd h hzx)
            clear HMJ hzx
            go_wp2
            go_roundw
            case rel => exact ⟨k + 1, z, by omega, by go_num, rfl, hide ⟨HI2.out, HI.out.2⟩⟩
            case measure => simp [intOf]; omega
    · obtain rfl : k = R.length := by omega
      have HX := hide HR.out.1.done
      clear hlt
      go_wp2
      go_ret
      exact ⟨ret_i HX.out, HR.out.2⟩
end Go.Proofs.Ytmiphealijbndaa
