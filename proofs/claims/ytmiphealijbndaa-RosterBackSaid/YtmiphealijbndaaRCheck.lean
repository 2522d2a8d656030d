/- Which voters may be: the program's Check, the document's; who is among them. -/
import Derived.Test.YtmiphealijbndaaRMem
namespace Go.Proofs.Ytmiphealijbndaa
set_option linter.unusedVariables false
set_option linter.unusedSimpArgs false
open Go.RowKit

theorem ret_i {a b : Int} (h : b = a) : Ending.returned (.int .i64 a) = .returned (.int .i64 b) := by rw [h]
theorem ret_b {a b : Bool} (h : b = a) : Ending.returned (.bool a) = .returned (.bool b) := by rw [h]
/-- What Check says. -/
def Chk (w : World) (l : List Int) (e : Ending) (w' : World) : Prop := e = .returned (.int .i64 (chkI l)) ∧ w = w'

set_option maxRecDepth 100000 in
set_option maxHeartbeats 1000000 in
theorem check_any {w : World} {v : Value} {l : List Int} (h : Ns w v l) : Calls Try.prog 14 #[v] w (Chk w l) := by
  obtain ⟨p, n, c, rfl⟩ := h.sl
  have hn := h.len
  have hnl := hn.1
  subst hnl
  have hbig : l.length ≤ maxLen := Nat.le_trans hn.2.1 hn.2.2
  unfold maxLen at hbig
  have H := hide h
  have HC := hide (fun h0 : 0 < l.length => h.at_ h0)
  clear h hn
  by_cases h0 : 0 < l.length
  · obtain ⟨g, o, rfl, hc⟩ := HC.out h0
    have HC2 := hide hc
    have HOK : Hid (okR l = okFrom 0 l) := by
      cases l with
      | nil => simp at h0
      | cons x r => rfl
    clear hc HC H
    go_enter Try.func14, Try.ntmps14
    go_wp2
    go_loop [3, 11] (fun lo i => ∃ (k : Nat) (z : Int), k ≤ l.length ∧ 0 ≤ z ∧ z ≤ 7 ∧ i = .int .i64 k ∧ lo = .int .i64 z ∧ Hid (okFrom 0 l = okFrom z (l.drop k))) (fun _ i => l.length - (intOf i).toNat)
    case atStart => exact ⟨0, 0, by omega, by omega, by omega, rfl, rfl, hide (by rw [List.drop_zero])⟩
    case round =>
      obtain ⟨k, z, hk, hz0, hz7, rfl, rfl, HR⟩ := hrel
      by_cases hlt : k < l.length
      · have hx := List.getElem?_eq_getElem hlt
        have hcell := HC2.out k _ hx
        have HD : Hid (l.drop k = l[k] :: l.drop (k + 1)) := hide (List.drop_eq_getElem_cons hlt)
        obtain ⟨x, hxx⟩ : ∃ x, l[k] = x := ⟨_, rfl⟩
        rw [hxx] at hcell HD
        clear hx hxx
        have HF : Hid (okFrom z (x :: l.drop (k + 1)) = (decide (z ≤ x) && decide (x < 7) && okFrom (x + 1) (l.drop (k + 1)))) := hide rfl
        by_cases hzx : x < z
        · have e1 : decide (x < z) = true := by simpa using hzx
          have HX : Hid (chkI l = 100) := hide (by
            unfold chkI
            rw [HOK.out, HR.out, HD.out, HF.out, decide_eq_false (by omega : ¬ z ≤ x)]
            rfl)
          clear HF HD HR HOK
          go_wp2
          go_ret
          exact ⟨ret_i HX.out, rfl⟩
        · have e1 : decide (x < z) = false := by simpa using hzx
          by_cases hx7 : 7 ≤ x
          · have e2 : decide (7 ≤ x) = true := by simpa using hx7
            have HX : Hid (chkI l = 100) := hide (by
              unfold chkI
              rw [HOK.out, HR.out, HD.out, HF.out, decide_eq_false (by omega : ¬ x < 7), Bool.and_false]
              rfl)
            clear HF HD HR HOK
            go_wp2
            go_ret
            exact ⟨ret_i HX.out, rfl⟩
          · have e2 : decide (7 ≤ x) = false := by simpa using hx7
            have HX : Hid (okFrom 0 l = okFrom (x + 1) (l.drop (k + 1))) := hide (by
              rw [HR.out, HD.out, HF.out, decide_eq_true (by omega : z ≤ x), decide_eq_true (by omega : x < 7)]
              rfl)
            clear HF HD HR
            go_wp2
            go_round
            case rel => exact ⟨k + 1, x + 1, by omega, by omega, by omega, by go_num, rfl, HX⟩
            case measure => simp [intOf]; omega
      · have HX : Hid (chkI l = 0) := hide (by
          unfold chkI
          rw [HOK.out, HR.out, List.drop_eq_nil_of_le (by omega)]
          rfl)
        clear HR HOK
        go_wp2
        go_ret
        exact ⟨ret_i HX.out, rfl⟩
  · obtain rfl : l = [] := List.eq_nil_of_length_eq_zero (by omega)
    clear HC H h0
    go_enter Try.func14, Try.ntmps14
    go_wp2
    go_ret
    exact ⟨rfl, rfl⟩

set_option maxRecDepth 100000 in
set_option maxHeartbeats 1000000 in
theorem refCheck_any {w : World} {v : Value} {l : List Int} (h : Ns w v l) : Calls Try.prog 15 #[v] w (Chk w l) := by
  obtain ⟨p, n, c, rfl⟩ := h.sl
  have hn := h.len
  have hnl := hn.1
  subst hnl
  have hbig : l.length ≤ maxLen := Nat.le_trans hn.2.1 hn.2.2
  unfold maxLen at hbig
  have H := hide h
  have HC := hide (fun h0 : 0 < l.length => h.at_ h0)
  clear h hn
  by_cases h0 : 0 < l.length
  · obtain ⟨g, o, rfl, hc⟩ := HC.out h0
    have HC2 := hide hc
    have HOK : Hid (okR l = okFrom 0 l) := by
      cases l with
      | nil => simp at h0
      | cons x r => rfl
    clear hc HC H
    go_enter Try.func15, Try.ntmps15
    go_wp2
    go_loop [3, 8] (fun lo i => ∃ (k : Nat) (z : Int), k ≤ l.length ∧ -1 ≤ z ∧ z ≤ 6 ∧ (0 < k → 0 ≤ z) ∧ i = .int .i64 k ∧ lo = .int .i64 z ∧ Hid (okFrom 0 l = okFrom (z + 1) (l.drop k))) (fun _ i => l.length - (intOf i).toNat)
    case atStart => exact ⟨0, -1, by omega, by omega, by omega, by omega, rfl, rfl, hide (by rw [List.drop_zero]; rfl)⟩
    case round =>
      obtain ⟨k, z, hk, hz0, hz7, hzk, rfl, rfl, HR⟩ := hrel
      by_cases hlt : k < l.length
      · have hx := List.getElem?_eq_getElem hlt
        have hcell := HC2.out k _ hx
        have HD : Hid (l.drop k = l[k] :: l.drop (k + 1)) := hide (List.drop_eq_getElem_cons hlt)
        obtain ⟨x, hxx⟩ : ∃ x, l[k] = x := ⟨_, rfl⟩
        rw [hxx] at hcell HD
        clear hx hxx
        have HF : Hid (okFrom (z + 1) (x :: l.drop (k + 1)) = (decide (z + 1 ≤ x) && decide (x < 7) && okFrom (x + 1) (l.drop (k + 1)))) := hide rfl
        by_cases hzx : x ≤ z
        · have e1 : decide (x ≤ z) = true := by simpa using hzx
          have HX : Hid (chkI l = 100) := hide (by
            unfold chkI
            rw [HOK.out, HR.out, HD.out, HF.out, decide_eq_false (by omega : ¬ z + 1 ≤ x)]
            rfl)
          clear HF HD HR HOK
          go_wp2
          go_ret
          exact ⟨ret_i HX.out, rfl⟩
        · have e1 : decide (x ≤ z) = false := by simpa using hzx
          by_cases hx7 : 6 < x
          · have e2 : decide (6 < x) = true := by simpa using hx7
            have HX : Hid (chkI l = 100) := hide (by
              unfold chkI
              rw [HOK.out, HR.out, HD.out, HF.out, decide_eq_false (by omega : ¬ x < 7), Bool.and_false]
              rfl)
            clear HF HD HR HOK
            go_wp2
            go_ret
            exact ⟨ret_i HX.out, rfl⟩
          · have e2 : decide (6 < x) = false := by simpa using hx7
            have HX : Hid (okFrom 0 l = okFrom (x + 1) (l.drop (k + 1))) := hide (by
              rw [HR.out, HD.out, HF.out, decide_eq_true (by omega : z + 1 ≤ x), decide_eq_true (by omega : x < 7)]
              rfl)
            clear HF HD HR
            go_wp2
            go_round
            case rel => exact ⟨k + 1, x, by omega, by omega, by omega, by omega, by go_num, rfl, HX⟩
            case measure => simp [intOf]; omega
      · have HX : Hid (chkI l = 0) := hide (by
          unfold chkI
          rw [HOK.out, HR.out, List.drop_eq_nil_of_le (by omega)]
          rfl)
        have hz := hzk (by omega)
        clear HR HOK hzk
        go_wp2
        go_ret
        exact ⟨ret_i HX.out, rfl⟩
  · obtain rfl : l = [] := List.eq_nil_of_length_eq_zero (by omega)
    clear HC H h0
    go_enter Try.func15, Try.ntmps15
    go_wp2
    go_loop [3, 8] (fun lo i => lo = .int .i64 (-1) ∧ i = .int .i64 0) (fun _ _ => 0)
    case atStart => exact ⟨rfl, rfl⟩
    case round =>
      obtain ⟨rfl, rfl⟩ := hrel
      go_wp2
      go_ret
      exact ⟨rfl, rfl⟩

/-- What Votes says. -/
def hasN (l : List Int) (n : Int) : Bool := l.contains n
theorem hasN_drop {l : List Int} {n : Int} : hasN l n = (l.drop 0).contains n := by rw [List.drop_zero]; rfl
def Vts (w : World) (l : List Int) (n : Int) (e : Ending) (w' : World) : Prop := e = .returned (.bool (hasN l n)) ∧ w = w'

set_option maxRecDepth 100000 in
set_option maxHeartbeats 1000000 in
theorem refVotes_any {w : World} {v : Value} {l : List Int} {n : Int} (h : Ns w v l) : Calls Try.prog 17 #[v, .int .i64 n] w (Vts w l n) := by
  obtain ⟨p, m, c, rfl⟩ := h.sl
  have hn := h.len
  have hnl := hn.1
  subst hnl
  have hbig : l.length ≤ maxLen := Nat.le_trans hn.2.1 hn.2.2
  unfold maxLen at hbig
  have HC := hide (fun h0 : 0 < l.length => h.at_ h0)
  clear h hn
  go_enter Try.func17, Try.ntmps17
  go_wp2
  go_loop [9] (fun i => ∃ k : Nat, k ≤ l.length ∧ i = .int .i64 k ∧ Hid (hasN l n = (l.drop k).contains n)) (fun i => l.length - (intOf i).toNat)
  case atStart => exact ⟨0, by omega, rfl, hide hasN_drop⟩
  case round =>
    obtain ⟨k, hk, rfl, HR⟩ := hrel
    by_cases hlt : k < l.length
    · obtain ⟨g, o, rfl, hc⟩ := HC.out (by omega)
      have hx := List.getElem?_eq_getElem hlt
      have hcell := hc k _ hx
      have HD : Hid (l.drop k = l[k] :: l.drop (k + 1)) := hide (List.drop_eq_getElem_cons hlt)
      obtain ⟨x, hxx⟩ : ∃ x, l[k] = x := ⟨_, rfl⟩
      rw [hxx] at hcell HD
      clear hx hxx hc
      by_cases e : x = n
      · have e1 : (x == n) = true := by simpa using e
        have HX : Hid (hasN l n = true) := hide (by
          rw [HR.out, HD.out, e]
          simp)
        clear HD HR HC e
        go_wp2
        go_ret
        exact ⟨ret_b HX.out, rfl⟩
      · have e1 : (x == n) = false := by simpa using e
        have HX : Hid (hasN l n = (l.drop (k + 1)).contains n) := hide (by
          rw [HR.out, HD.out, List.contains_cons]
          simp [Ne.symm e])
        clear HD HR e
        go_wp2
        go_round
        case rel => exact ⟨k + 1, by omega, by go_num, HX⟩
        case measure => simp [intOf]; omega
    · have HX : Hid (hasN l n = false) := hide (by
        rw [HR.out, List.drop_eq_nil_of_le (by omega)]
        rfl)
      clear HR HC
      go_wp2
      go_ret
      exact ⟨ret_b HX.out, rfl⟩

/-- What Majority says. -/
def Maj (w : World) (V S : List Int) (e : Ending) (w' : World) : Prop := e = .returned (.bool (maj V S)) ∧ w = w'
theorem among_take {V S : List Int} {k : Nat} (h : k < V.length) : among (V.take (k + 1)) S = among (V.take k) S + if hasN S V[k] then 1 else 0 := by
  unfold among
  rw [List.take_succ_eq_append_getElem h, List.countP_append]
  simp [List.countP_cons, hasN]

set_option maxRecDepth 100000 in
set_option maxHeartbeats 1000000 in
theorem refMajority_any {w : World} {v u : Value} {V S : List Int} (hv : Ns w v V) (hu : Ns w u S) : Calls Try.prog 20 #[v, u] w (Maj w V S) := by
  obtain ⟨p, m, c, rfl⟩ := hv.sl
  have hn := hv.len
  have hnl := hn.1
  subst hnl
  have hbig : V.length ≤ maxLen := Nat.le_trans hn.2.1 hn.2.2
  unfold maxLen at hbig
  have HC := hide (fun h0 : 0 < V.length => hv.at_ h0)
  have HCK := hide (refCheck_any hv)
  have HV : Hid (∀ n : Int, Calls Try.prog 17 #[u, .int .i64 n] w (Vts w S n)) := hide fun n => refVotes_any hu
  clear hv hn hu
  go_enter Try.func20, Try.ntmps20
  go_wp2
  go_loop [5, 6, 11] (fun y no i => ∃ k a : Nat, k ≤ V.length ∧ a ≤ k ∧ i = .int .i64 k ∧ y = .int .i64 a ∧ no = .int .i64 ((k : Int) - a) ∧ Hid (among (V.take k) S = a)) (fun _ _ i => V.length - (intOf i).toNat)
  case atStart => exact ⟨0, 0, by omega, by omega, rfl, rfl, rfl, hide rfl⟩
  case round =>
    obtain ⟨k, a, hk, ha, rfl, rfl, rfl, HR⟩ := hrel
    by_cases hlt : k < V.length
    · obtain ⟨g, o, rfl, hc⟩ := HC.out (by omega)
      have hx := List.getElem?_eq_getElem hlt
      have hcell := hc k _ hx
      have HD := hide (among_take (S := S) hlt)
      obtain ⟨x, hxx⟩ : ∃ x, V[k] = x := ⟨_, rfl⟩
      rw [hxx] at hcell HD
      clear hx hxx hc
      go_wp2_with fail
      refine (HV.out x).mono ?_
      obtain ⟨q, hq⟩ : ∃ q, hasN S x = q := ⟨_, rfl⟩
      unfold Vts
      rw [hq] at HD ⊢
      rintro e w' ⟨rfl, rfl⟩
      clear hq
      cases q
      · have HX : Hid (among (V.take (k + 1)) S = a) := hide (by rw [HD.out, HR.out]; rfl)
        clear HD HR
        go_wp2
        go_round
        case rel => exact ⟨k + 1, a, by omega, by omega, by go_num, rfl, by first | rfl | (congr 1; omega), HX⟩
        case measure => simp [intOf]; omega
      · have HX : Hid (among (V.take (k + 1)) S = a + 1) := hide (by rw [HD.out, HR.out]; rfl)
        clear HD HR
        go_wp2
        go_round
        case rel => exact ⟨k + 1, a + 1, by omega, by omega, by go_num, by go_num, by first | rfl | (congr 1; omega), HX⟩
        case measure => simp [intOf]; omega
    · obtain rfl : k = V.length := by omega
      have HX : Hid (among V S = a) := hide (by
        have := HR.out
        rwa [List.take_length] at this)
      clear HR HC
      obtain ⟨q, hq⟩ : ∃ q, okR V = q := ⟨_, rfl⟩
      go_wp2_with fail
      refine HCK.out.mono ?_
      unfold Chk
      rintro e w' ⟨rfl, rfl⟩
      cases q
      · have hci : chkI V = 100 := by unfold chkI; rw [hq]; rfl
        rw [hci]
        have HM : Hid (maj V S = false) := hide (by unfold maj; rw [hq]; rfl)
        clear hq hci
        go_wp2
        go_ret
        exact ⟨ret_b HM.out, rfl⟩
      · have hci : chkI V = 0 := by unfold chkI; rw [hq]; rfl
        rw [hci]
        have HM : Hid (maj V S = decide ((V.length : Int) - a < a)) := hide (by
          unfold maj
          rw [hq, HX.out, Bool.true_and, decide_eq_decide]
          omega)
        clear hq hci HX
        go_wp2
        go_ret
        exact ⟨ret_b HM.out, rfl⟩
end Go.Proofs.Ytmiphealijbndaa
