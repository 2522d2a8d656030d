/- Which voters may be: the program's Check, the document's; who is among them. -/
import Derived.Test.YtiiollgipfggmaaRMem
namespace Go.Proofs.Ytiiollgipfggmaa
set_option linter.unusedVariables false
set_option linter.unusedSimpArgs false
open Go.RowKit

theorem ret_i {a b : Int} (h : b = a) : Ending.returned (.int .i64 a) = .returned (.int .i64 b) := by rw [h]
theorem ret_b {a b : Bool} (h : b = a) : Ending.returned (.bool a) = .returned (.bool b) := by rw [h]
/-- What Check says. -/
def Chk (w : World) (l : List Int) (e : Ending) (w' : World) : Prop := e = .returned (.int .i64 (chkI l)) ∧ w = w'

set_option maxRecDepth 100000 in
set_option maxHeartbeats 1000000 in
theorem check_any {w : World} {v : Value} {l : List Int} (h : Ns w v l) : Calls Try.prog 99 #[v] w (Chk w l) := by
  obtain ⟨p, n, c, rfl⟩ := h.sl
  have hn := h.len
  have hnl := hn.1
  subst hnl
  have hbig : l.length ≤ maxLen := Nat.le_trans hn.2.1 hn.2.2
  unfold maxLen at hbig
  have H := hide h
  have HC := hide (fun h0 : 0 < l.length => h.at_ h0)
  clear h hn
  by_cases h0 : 0 < l.length
  · obtain ⟨g, o, rfl, hc⟩ := HC.out h0
    have HC2 := hide hc
    have HOK : Hid (okR l = okFrom 0 l) := by
      cases l with
      | nil => simp at h0
      | cons x r => rfl
    clear hc HC H
    go_enter Try.func99, Try.ntmps99
    go_wp2
    go_loop [3, 11] (fun lo i => ∃ (k : Nat) (z : Int), k ≤ l.length ∧ 0 ≤ z ∧ z ≤ 7 ∧ i = .int .i64 k ∧ lo = .int .i64 z ∧ Hid (okFrom 0 l = okFrom z (l.drop k))) (fun _ i => l.length - (intOf i).toNat)
    case atStart => exact ⟨0, 0, by omega, by omega, by omega, rfl, rfl, hide (by rw [List.drop_zero])⟩
    case round =>
      obtain ⟨k, z, hk, hz0, hz7, rfl, rfl, HR⟩ := hrel
      by_cases hlt : k < l.length
      · have hx := List.getElem?_eq_getElem hlt
        have hcell := HC2.out k _ hx
        have HD : Hid (l.drop k = l[k] :: l.drop (k + 1)) := hide (List.drop_eq_getElem_cons hlt)
        obtain ⟨x, hxx⟩ : ∃ x, l[k] = x := ⟨_, rfl⟩
        rw [hxx] at hcell HD
        clear hx hxx
        have HF : Hid (okFrom z (x :: l.drop (k + 1)) = (decide (z ≤ x) && decide (x < 7) && okFrom (x + 1) (l.drop (k + 1)))) := hide rfl
        by_cases hzx : x < z
        · have e1 : decide (x < z) = true := by simpa using hzx
          have HX : Hid (chkI l = 100) := hide (by
            unfold chkI
            rw [HOK.out, HR.out, HD.out, HF.out, decide_eq_false (by omega : ¬ z ≤ x)]
            rfl)
          clear HF HD HR HOK
          go_wp2
          go_ret
          exact ⟨ret_i HX.out, rfl⟩
        · have e1 : decide (x < z) = false := by simpa using hzx
          by_cases hx7 : 7 ≤ x
          · have e2 : decide (7 ≤ x) = true := by simpa using hx7
            have HX : Hid (chkI l = 100) := hide (by
              unfold chkI
              rw [HOK.out, HR.out, HD.out, HF.out, decide_eq_false (by omega : ¬ x < 7), Bool.and_false]
              rfl)
            clear HF HD HR HOK
            go_wp2
            go_ret
            exact ⟨ret_i HX.out, rfl⟩
          · have e2 : decide (7 ≤ x) = false := by simpa using hx7
            have HX : Hid (okFrom 0 l = okFrom (x + 1) (l.drop (k + 1))) := hide (by
              rw [HR.out, HD.out, HF.out, decide_eq_true (by omega : z ≤ x), decide_eq_true (by omega : x < 7)]
              rfl)
            clear HF HD HR
            go_wp2
            go_round
            case rel => exact ⟨k + 1, x + 1, by omega, by omega, by omega, by go_num, rfl, HX⟩
            case measure => simp [intOf]; omega
      · have HX : Hid (chkI l = 0) := hide (by
          unfold chkI
          rw [HOK.out, HR.out, List.drop_eq_nil_of_le (by omega)]
          rfl)
        clear HR HOK
        go_wp2
        go_ret
        exact ⟨ret_i HX.out, rfl⟩
  · obtain rfl : l = [] := List.eq_nil_of_length_eq_zero (by omega)
    clear HC H h0
    go_enter Try.func99, Try.ntmps99
    go_wp2
    go_ret
    exact ⟨rfl, rfl⟩

set_option maxRecDepth 100000 in
set_option maxHeartbeats 1000000 in
theorem refCheck_any {w : World} {v : Value} {l : List Int} (h : Ns w v l) : Calls Try.prog 75 #[v] w (Chk w l) := by
  obtain ⟨p, n, c, rfl⟩ := h.sl
  have hn := h.len
  have hnl := hn.1
  subst hnl
  have hbig : l.length ≤ maxLen := Nat.le_trans hn.2.1 hn.2.2
  unfold maxLen at hbig
  have H := hide h
  have HC := hide (fun h0 : 0 < l.length => h.at_ h0)
  clear h hn
  by_cases h0 : 0 < l.length
  · obtain ⟨g, o, rfl, hc⟩ := HC.out h0
    have HC2 := hide hc
    have HOK : Hid (okR l = okFrom 0 l) := by
      cases l with
      | nil => simp at h0
      | cons x r => rfl
    clear hc HC H
    go_enter Try.func75, Try.ntmps75
    go_wp2
    go_loop [3, 8] (fun lo i => ∃ (k : Nat) (z : Int), k ≤ l.length ∧ -1 ≤ z ∧ z ≤ 6 ∧ (0 < k → 0 ≤ z) ∧ i = .int .i64 k ∧ lo = .int .i64 z ∧ Hid (okFrom 0 l = okFrom (z + 1) (l.drop k))) (fun _ i => l.length - (intOf i).toNat)
    case atStart => exact ⟨0, -1, by omega, by omega, by omega, by omega, rfl, rfl, hide (by rw [List.drop_zero]; rfl)⟩
    case round =>
      obtain ⟨k, z, hk, hz0, hz7, hzk, rfl, rfl, HR⟩ := hrel
      by_cases hlt : k < l.length
      · have hx := List.getElem?_eq_getElem hlt
        have hcell := HC2.out k _ hx
        have HD : Hid (l.drop k = l[k] :: l.drop (k + 1)) := hide (List.drop_eq_getElem_cons hlt)
        obtain ⟨x, hxx⟩ : ∃ x, l[k] = x := ⟨_, rfl⟩
        rw [hxx] at hcell HD
        clear hx hxx
        have HF : Hid (okFrom (z + 1) (x :: l.drop (k + 1)) = (decide (z + 1 ≤ x) && decide (x < 7) && okFrom (x + 1) (l.drop (k + 1)))) := hide rfl
        by_cases hzx : x ≤ z
        · have e1 : decide (x ≤ z) = true := by simpa using hzx
          have HX : Hid (chkI l = 100) := hide (by
            unfold chkI
            rw [HOK.out, HR.out, HD.out, HF.out, decide_eq_false (by omega : ¬ z + 1 ≤ x)]
            rfl)
          clear HF HD HR HOK
          go_wp2
          go_ret
          exact ⟨ret_i HX.out, rfl⟩
        · have e1 : decide (x ≤ z) = false := by simpa using hzx
          by_cases hx7 : 6 < x
          · have e2 : decide (6 < x) = true := by simpa using hx7
            have HX : Hid (chkI l = 100) := hide (by
              unfold chkI
              rw [HOK.out, HR.out, HD.out, HF.out, decide_eq_false (by omega : ¬ x < 7), Bool.and_false]
              rfl)
            clear HF HD HR HOK
            go_wp2
            go_ret
            exact ⟨ret_i HX.out, rfl⟩
          · have e2 : decide (6 < x) = false := by simpa using hx7
            have HX : Hid (okFrom 0 l = okFrom (x + 1) (l.drop (k + 1))) := hide (by
              rw [HR.out, HD.out, HF.out, decide_eq_true (by omega : z + 1 ≤ x), decide_eq_true (by omega : x < 7)]
              rfl)
            clear HF HD HR
            go_wp2
            go_round
            case rel => exact ⟨k + 1, x, by omega, by omega, by omega, by omega, by go_num, rfl, HX⟩
            case measure => simp [intOf]; omega
      · have HX : Hid (chkI l = 0) := hide (by
          unfold chkI
          rw [HOK.out, HR.out, List.drop_eq_nil_of_le (by omega)]
          rfl)
        have hz := hzk (by omega)
        clear HR HOK hzk
        go_wp2
        go_ret
        exact ⟨ret_i HX.out, rfl⟩
  · obtain rfl : l = [] := List.eq_nil_of_length_eq_zero (by omega)
    clear HC H h0
    go_enter Try.func75, Try.ntmps75
    go_wp2
    go_loop [3, 8] (fun lo i => lo = .int .i64 (-1) ∧ i = .int .i64 0) (fun _ _ => 0)
    case atStart => exact ⟨rfl, rfl⟩
    case round =>
      obtain ⟨rfl, rfl⟩ := hrel
      go_wp2
      go_ret
      exact ⟨rfl, rfl⟩

/-- What Votes says. -/
def hasN (l : List Int) (n : Int) : Bool := l.contains n
theorem hasN_drop {l : List Int} {n : Int} : hasN l n = (l.drop 0).contains n := by rw [List.drop_zero]; rfl
def Vts (w : World) (l : List Int) (n : Int) (e : Ending) (w' : World) : Prop := e = .returned (.bool (hasN l n)) ∧ w = w'

/-- What Majority says. -/
def Maj (w : World) (V S : List Int) (e : Ending) (w' : World) : Prop := e = .returned (.bool (maj V S)) ∧ w = w'
theorem among_take {V S : List Int} {k : Nat} (h : k < V.length) : among (V.take (k + 1)) S = among (V.take k) S + if hasN S V[k] then 1 else 0 := by
  unfold among
  rw [List.take_succ_eq_append_getElem h, List.countP_append]
  simp [List.countP_cons, hasN]

end Go.Proofs.Ytiiollgipfggmaa
