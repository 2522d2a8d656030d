/- Which names the document lets be; why a file can't be asked. -/
import Derived.Test.YtdghkmpcjjmlfaaRdFiles
namespace Go.Proofs.Ytdghkmpcjjmlfaa
set_option linter.unusedVariables false
set_option linter.unusedSimpArgs false
open Go.RowKit

set_option maxRecDepth 200000 in
set_option maxHeartbeats 2000000 in
theorem rname_any (s : ByteArray) (hs : s.size ≤ maxLen) (w : World) : Calls Try.prog 34 #[.string s] w fun e w' => e = .returned (.bool (okN s.data.toList)) ∧ w = w' := by
  have hl : s.data.toList.length = s.size := by rw [Array.length_toList]; rfl
  have hm : (s.size : Int) ≤ 9223372036854775807 := by unfold maxLen at hs; omega
  have HL := hide hl
  clear hl hs
  go_enter Try.func34, Try.ntmps34
  go_wp2_with fail
  go_loop [3, 4, 7] (fun _ _ i => ∃ k : Nat, k ≤ s.size ∧ i = .int .i64 k ∧ (s.data.toList.take k).all okB = true) (fun _ _ i => s.size - (intOf i).toNat)
  case atStart => exact ⟨0, by omega, rfl, rfl⟩
  case round =>
    obtain ⟨k, hk, rfl, hall⟩ := hrel
    have HALL := hide hall
    clear hall
    by_cases hkm : (k : Int) < (s.size : Int)
    · have hks : k < s.size := by omega
      by_cases h46 : s[k].toNat = 46
      · have g46 : ((s[k].toNat : Int) == 46) = true := ieq_true (by omega)
        have HB := hide (okN_step hks HALL.out (okB_true (.inr (.inr h46))))
        go_wp2
        all_goals
          go_round
          case rel => exact ⟨k + 1, by omega, by go_num, HB.out⟩
          case measure => simp [intOf]; omega
      · have g46 : ((s[k].toNat : Int) == 46) = false := ieq_false (by omega)
        have hX : ((97 : Int) ≤ (s[k].toNat : Int) ∧ (s[k].toNat : Int) ≤ 122) ∨ ((48 : Int) ≤ (s[k].toNat : Int) ∧ (s[k].toNat : Int) ≤ 57) ∨ ¬ (((97 : Int) ≤ (s[k].toNat : Int) ∧ (s[k].toNat : Int) ≤ 122) ∨ ((48 : Int) ≤ (s[k].toNat : Int) ∧ (s[k].toNat : Int) ≤ 57)) := by omega
        rcases hX with ⟨x1, x2⟩ | ⟨x1, x2⟩ | hx
        · have HB := hide (okN_step hks HALL.out (okB_true (.inl (by omega))))
          go_wp2
          all_goals
            go_round
            case rel => exact ⟨k + 1, by omega, by go_num, HB.out⟩
            case measure => simp [intOf]; omega
        · have HB := hide (okN_step hks HALL.out (okB_true (.inr (.inl (by omega)))))
          go_wp2
          all_goals
            go_round
            case rel => exact ⟨k + 1, by omega, by go_num, HB.out⟩
            case measure => simp [intOf]; omega
        · have HB := hide (okN_bad hks (okB_false (by omega)))
          have hx' : (s[k].toNat : Int) < 48 ∨ ((57 : Int) < (s[k].toNat : Int) ∧ (s[k].toNat : Int) < 97) ∨ (122 : Int) < (s[k].toNat : Int) := by omega
          clear hx
          rcases hx' with x1 | ⟨x1, x2⟩ | x1
          · have y1 : ((48 : Int) ≤ (s[k].toNat : Int)) = False := eq_false (by omega)
            have y2 : ((97 : Int) ≤ (s[k].toNat : Int)) = False := eq_false (by omega)
            clear x1
            go_wp2
            go_ret
            exact ⟨by rw [HB.out]; rfl, rfl⟩
          · have y1 : (48 : Int) ≤ (s[k].toNat : Int) := by omega
            have y3 : ((s[k].toNat : Int) ≤ 57) = False := eq_false (by omega)
            have y2 : ((97 : Int) ≤ (s[k].toNat : Int)) = False := eq_false (by omega)
            clear x1 x2
            go_wp2
            go_ret
            exact ⟨by rw [HB.out]; rfl, rfl⟩
          · have y1 : (48 : Int) ≤ (s[k].toNat : Int) := by omega
            have y3 : ((s[k].toNat : Int) ≤ 57) = False := eq_false (by omega)
            have y2 : (97 : Int) ≤ (s[k].toNat : Int) := by omega
            have y4 : ((s[k].toNat : Int) ≤ 122) = False := eq_false (by omega)
            clear x1
            go_wp2
            go_ret
            exact ⟨by rw [HB.out]; rfl, rfl⟩
    · have e := HALL.out
      rw [List.take_of_length_le (by have := HL.out; omega)] at e
      by_cases h0 : s.size = 0
      · have hr : okN s.data.toList = false := by
          unfold okN
          rw [decide_eq_false (p := 0 < s.data.toList.length) (by have := HL.out; omega)]
          rfl
        have HR := hide hr
        have g0 : ((0 : Int) < (s.size : Int)) = False := eq_false (by omega)
        clear hr e
        go_wp2
        go_ret
        exact ⟨by rw [HR.out]; rfl, rfl⟩
      · by_cases h1 : (s.size : Int) < 33
        · have hr : okN s.data.toList = true := by
            unfold okN
            rw [e, decide_eq_true (p := 0 < s.data.toList.length) (by have := HL.out; omega), decide_eq_true (p := s.data.toList.length ≤ 32) (by have := HL.out; omega)]
            rfl
          have HR := hide hr
          have g0 : (0 : Int) < (s.size : Int) := by omega
          clear hr e
          go_wp2
          go_ret
          exact ⟨by rw [HR.out]; rfl, rfl⟩
        · have hr : okN s.data.toList = false := by
            unfold okN
            rw [decide_eq_false (p := s.data.toList.length ≤ 32) (by have := HL.out; omega), Bool.and_false]
            rfl
          have HR := hide hr
          have g0 : (0 : Int) < (s.size : Int) := by omega
          clear hr e
          go_wp2
          go_ret
          exact ⟨by rw [HR.out]; rfl, rfl⟩

/-- Why a file can't be asked. -/
def Dk.why (st : Dk) (k : List UInt8) : Nat := if st.down then 22 else if okN k = false then 20 else if (get st.seen k).isSome then 0 else 21
theorem Dk.why_rdy (st : Dk) (k : List UInt8) : st.why k = if rdy st.down k ≠ 0 then rdy st.down k else if (get st.seen k).isSome then 0 else 21 := by
  unfold Dk.why rdy
  rcases st.down <;> rcases okN k <;> simp

set_option maxRecDepth 200000 in
set_option maxHeartbeats 4000000 in
theorem rwhy_any {w : World} {Z R : Nat → Prop} {g : Nat} {st : Dk} (h : RdIs w Z R g st) (ok : st.Ok) (s : ByteArray) (hs : s.size ≤ maxLen) : Calls Try.prog 30 #[.pointer (some ⟨g, 0, none⟩), .string s] w fun e w' => e = .returned (.int .i64 (st.why s.data.toList : Nat)) ∧ Chg w w' (fun _ => False) := by
  obtain ⟨vl, va, kp, tr, hh, _⟩ := h.parts
  have c3 := hh.c3
  have HF := hide (rfiles_any h ok)
  have HW0 : Hid (st.why s.data.toList = if st.down then 22 else if okN s.data.toList = false then 20 else if (get st.seen s.data.toList).isSome then 0 else 21) := hide rfl
  clear hh h ok
  rcases hd : st.down with _ | _
  · rw [hd] at c3 HW0
    rcases hn : okN s.data.toList with _ | _
    · rw [hn] at HW0
      have HNM := hide (rname_any s hs w)
      rw [hn] at HNM
      go_enter Try.func30, Try.ntmps30
      go_wp2_with fail
      refine HNM.out.mono ?_
      rintro e w1 ⟨rfl, rfl⟩
      go_wp2
      go_ret
      exact ⟨by rw [HW0.out]; rfl, Chg.refl _ _⟩
    · rw [hn] at HW0
      have HNM := hide (rname_any s hs w)
      rw [hn] at HNM
      go_enter Try.func30, Try.ntmps30
      go_wp2_with fail
      refine HNM.out.mono ?_
      rintro e w1 ⟨rfl, rfl⟩
      go_wp2_with fail
      refine HF.out.mono ?_
      rintro e w2 ⟨p2, n2, c2, rfl, hf2, hc2⟩
      have HG := hide (rget_any hf2 s)
      have HC2 := hide hc2
      clear hf2 hc2
      go_wp2_with fail
      refine HG.out.mono ?_
      rintro e w3 ⟨q, m, d, rfl, _, _, hc3⟩
      have HC3 := hide (HC2.out.trans hc3 fun _ h => .inl h)
      clear hc3
      rcases hs : (get st.seen s.data.toList).isSome with _ | _
      all_goals
        rw [hs] at HW0
        go_wp2
        go_ret
        exact ⟨by rw [HW0.out]; rfl, HC3.out⟩
  · rw [hd] at c3 HW0
    go_enter Try.func30, Try.ntmps30
    go_wp2
    go_ret
    exact ⟨by rw [HW0.out]; rfl, Chg.refl _ _⟩
end Go.Proofs.Ytdghkmpcjjmlfaa
