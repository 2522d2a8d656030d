/- Whether voters may be followed by others: the program's May, the document's. -/
import Derived.Test.YtmiphealijbndaaRMaj
namespace Go.Proofs.Ytmiphealijbndaa
set_option linter.unusedVariables false
set_option linter.unusedSimpArgs false
open Go.RowKit

/-- What May says. -/
def MayPost (w : World) (a b : List Int) (e : Ending) (w' : World) : Prop := e = .returned (.int .i64 (mayI a b)) ∧ Below w.heap.size w w'
theorem chkI_of {l : List Int} {q : Bool} (h : okR l = q) : chkI l = if q then 0 else 100 := by unfold chkI; rw [h]

set_option maxRecDepth 100000 in
set_option maxHeartbeats 1000000 in
theorem may_any {w : World} {v u : Value} {a b : List Int} (hv : Ns w v a) (hu : Ns w u b) (ha9 : a.length ≤ 1000) (hb9 : b.length ≤ 1000) : Calls Try.prog 21 #[v, u] w (MayPost w a b) := by
  have HC1 := hide (check_any hv)
  have HC2 := hide (check_any hu)
  have HO1 := hide (oneMore_any hv hu ha9 hb9)
  have HO2 : Hid (∀ w', Below w.heap.size w w' → Calls Try.prog 32 #[u, v] w' fun e w2 => e = .returned (.bool (oneM b a)) ∧ Below w'.heap.size w' w2) := hide fun w' hb => oneMore_any (hu.below hb) (hv.below hb) hb9 ha9
  obtain ⟨p, m, c, rfl⟩ := hv.sl
  obtain ⟨p2, m2, c2, rfl⟩ := hu.sl
  clear hv hu ha9 hb9
  unfold Chk at HC1 HC2
  obtain ⟨q1, hq1⟩ : ∃ q, okR a = q := ⟨_, rfl⟩
  obtain ⟨q2, hq2⟩ : ∃ q, okR b = q := ⟨_, rfl⟩
  obtain ⟨q3, hq3⟩ : ∃ q, oneM a b = q := ⟨_, rfl⟩
  obtain ⟨q4, hq4⟩ : ∃ q, oneM b a = q := ⟨_, rfl⟩
  have HX : Hid (mayI a b = if q1 && q2 then if q3 || q4 then 0 else 101 else 100) := hide (by unfold mayI; rw [hq1, hq2, hq3, hq4])
  rw [chkI_of hq1] at HC1
  rw [chkI_of hq2] at HC2
  rw [hq3] at HO1
  rw [hq4] at HO2
  clear hq1 hq2 hq3 hq4
  go_enter Try.func21, Try.ntmps21
  go_wp2_with fail
  refine HC1.out.mono ?_
  cases q1
  · simp only [Bool.false_eq_true, if_false, Bool.false_and] at HX ⊢
    rintro e w' ⟨rfl, rfl⟩
    go_wp2
    go_ret
    exact ⟨ret_i HX.out, Below.refl _ _⟩
  · simp only [if_true, Bool.true_and] at HX ⊢
    rintro e w' ⟨rfl, rfl⟩
    go_wp2_with fail
    refine HC2.out.mono ?_
    cases q2
    · simp only [Bool.false_eq_true, if_false] at HX ⊢
      rintro e w' ⟨rfl, rfl⟩
      go_wp2
      go_ret
      exact ⟨ret_i HX.out, Below.refl _ _⟩
    · simp only [if_true] at HX ⊢
      rintro e w' ⟨rfl, rfl⟩
      go_wp2_with fail
      refine HO1.out.mono ?_
      cases q3
      · simp only [Bool.false_or] at HX
        rintro e w1 ⟨rfl, hb1⟩
        have HB1 := hide hb1
        clear hb1
        go_wp2_with fail
        refine (HO2.out _ HB1.out).mono ?_
        rintro e w2 ⟨rfl, hb2⟩
        have HB2 := hide (HB1.out.trans (hb2.mono HB1.out.size))
        clear hb2
        cases q4
        · simp only [Bool.false_eq_true, if_false] at HX
          go_wp2
          go_ret
          exact ⟨ret_i HX.out, HB2.out⟩
        · simp only [if_true] at HX
          go_wp2
          go_ret
          exact ⟨ret_i HX.out, HB2.out⟩
      · simp only [Bool.true_or, if_true] at HX
        rintro e w1 ⟨rfl, hb1⟩
        have HB1 := hide hb1
        clear hb1
        go_wp2
        go_ret
        exact ⟨ret_i HX.out, HB1.out⟩

def unl (a b : List Int) (k : Nat) : Nat := (seven.take k).countP fun n => a.contains n != b.contains n
theorem unl_succ {a b : List Int} {k : Nat} (h : k < 7) : unl a b (k + 1) = unl a b k + if hasN a (k : Int) != hasN b (k : Int) then 1 else 0 := by
  unfold unl hasN
  have e : seven.take (k + 1) = seven.take k ++ [(k : Int)] := by
    obtain h | h | h | h | h | h | h : k = 0 ∨ k = 1 ∨ k = 2 ∨ k = 3 ∨ k = 4 ∨ k = 5 ∨ k = 6 := by omega
    all_goals (subst h; rfl)
  rw [e, List.countP_append]
  congr 1
  simp [List.countP_cons]
theorem unl_le (a b : List Int) (k : Nat) : unl a b k ≤ k := by
  unfold unl
  have := List.countP_le_length (p := fun n => a.contains n != b.contains n) (l := seven.take k)
  rw [List.length_take] at this
  omega

set_option maxRecDepth 100000 in
set_option maxHeartbeats 1000000 in
theorem refMay_any {w : World} {v u : Value} {a b : List Int} (hv : Ns w v a) (hu : Ns w u b) : Calls Try.prog 22 #[v, u] w fun e w' => e = .returned (.int .i64 (mayI a b)) ∧ w = w' := by
  have HC1 := hide (refCheck_any hv)
  have HC2 := hide (refCheck_any hu)
  have HV1 : Hid (∀ n : Int, Calls Try.prog 17 #[v, .int .i64 n] w (Vts w a n)) := hide fun n => refVotes_any hv
  have HV2 : Hid (∀ n : Int, Calls Try.prog 17 #[u, .int .i64 n] w (Vts w b n)) := hide fun n => refVotes_any hu
  obtain ⟨p, m, c, rfl⟩ := hv.sl
  obtain ⟨p2, m2, c2, rfl⟩ := hu.sl
  clear hv hu
  unfold Chk at HC1 HC2
  unfold Vts at HV1 HV2
  obtain ⟨q1, hq1⟩ : ∃ q, okR a = q := ⟨_, rfl⟩
  obtain ⟨q2, hq2⟩ : ∃ q, okR b = q := ⟨_, rfl⟩
  have HX : Hid (mayI a b = if q1 && q2 then if unl a b 7 = 1 then 0 else 101 else 100) := hide (by
    unfold mayI
    rw [hq1, hq2]
    cases q1 <;> cases q2 <;> simp only [Bool.false_and, Bool.and_false, Bool.and_self, Bool.false_eq_true, if_false, if_true]
    rw [may_unlike hq1 hq2]
    have e : unlike a b = unl a b 7 := rfl
    rw [e]
    by_cases h : unl a b 7 = 1 <;> simp [h])
  rw [chkI_of hq1] at HC1
  rw [chkI_of hq2] at HC2
  clear hq1 hq2
  go_enter Try.func22, Try.ntmps22
  go_wp2_with fail
  refine HC1.out.mono ?_
  cases q1
  · simp only [Bool.false_eq_true, if_false, Bool.false_and] at HX ⊢
    rintro e w' ⟨rfl, rfl⟩
    go_wp2
    go_ret
    exact ⟨ret_i HX.out, rfl⟩
  · simp only [if_true, Bool.true_and] at HX ⊢
    rintro e w' ⟨rfl, rfl⟩
    go_wp2_with fail
    refine HC2.out.mono ?_
    cases q2
    · simp only [Bool.false_eq_true, if_false] at HX ⊢
      rintro e w' ⟨rfl, rfl⟩
      go_wp2
      go_ret
      exact ⟨ret_i HX.out, rfl⟩
    · simp only [if_true] at HX ⊢
      rintro e w' ⟨rfl, rfl⟩
      clear HC1 HC2
      go_wp2
      go_loop [5, 15] (fun x i => ∃ k m : Nat, k ≤ 7 ∧ m ≤ k ∧ i = .int .i64 k ∧ x = .int .i64 m ∧ Hid (unl a b k = m)) (fun _ i => 7 - (intOf i).toNat)
      case atStart => exact ⟨0, 0, by omega, by omega, rfl, rfl, hide rfl⟩
      case round =>
        obtain ⟨k, m, hk, hm, rfl, rfl, HR⟩ := hrel
        by_cases hlt : k < 7
        · have HD := hide (unl_succ (a := a) (b := b) hlt)
          obtain ⟨q3, hq3⟩ : ∃ q, hasN a (k : Int) = q := ⟨_, rfl⟩
          obtain ⟨q4, hq4⟩ : ∃ q, hasN b (k : Int) = q := ⟨_, rfl⟩
          have h1 := HV1.out k
          have h2 := HV2.out k
          rw [hq3, hq4] at HD
          rw [hq3] at h1
          rw [hq4] at h2
          have H1 := hide h1
          have H2 := hide h2
          clear h1 h2 hq3 hq4
          go_wp2_with fail
          refine H1.out.mono ?_
          rintro e w' ⟨rfl, rfl⟩
          go_wp2_with fail
          refine H2.out.mono ?_
          rintro e w' ⟨rfl, rfl⟩
          clear H1 H2
          cases q3 <;> cases q4
          · have HX2 : Hid (unl a b (k + 1) = m) := hide (by rw [HD.out, HR.out]; rfl)
            clear HD HR
            go_wp2
            go_round
            case rel => exact ⟨k + 1, m, by omega, by omega, by go_num, rfl, HX2⟩
            case measure => simp [intOf]; omega
          · have HX2 : Hid (unl a b (k + 1) = m + 1) := hide (by rw [HD.out, HR.out]; rfl)
            clear HD HR
            go_wp2
            go_round
            case rel => exact ⟨k + 1, m + 1, by omega, by omega, by go_num, by go_num, HX2⟩
            case measure => simp [intOf]; omega
          · have HX2 : Hid (unl a b (k + 1) = m + 1) := hide (by rw [HD.out, HR.out]; rfl)
            clear HD HR
            go_wp2
            go_round
            case rel => exact ⟨k + 1, m + 1, by omega, by omega, by go_num, by go_num, HX2⟩
            case measure => simp [intOf]; omega
          · have HX2 : Hid (unl a b (k + 1) = m) := hide (by rw [HD.out, HR.out]; rfl)
            clear HD HR
            go_wp2
            go_round
            case rel => exact ⟨k + 1, m, by omega, by omega, by go_num, rfl, HX2⟩
            case measure => simp [intOf]; omega
        · obtain rfl : k = 7 := by omega
          clear HV1 HV2
          by_cases h1 : m = 1
          · subst h1
            have HX2 : Hid (mayI a b = 0) := hide (by rw [HX.out, if_pos HR.out])
            clear HX HR
            go_wp2
            go_ret
            exact ⟨ret_i HX2.out, rfl⟩
          · have HX2 : Hid (mayI a b = 101) := hide (by rw [HX.out, if_neg (by rw [HR.out]; exact h1)])
            have e1 : ((m : Int) != 1) = true := by simp; omega
            clear HX HR h1
            go_wp2
            go_ret
            exact ⟨ret_i HX2.out, rfl⟩

/-- Lists of numbers in memory, those few. -/
def lightN (L : List (List Int)) : Bool := L.all fun l => decide (l.length ≤ 300)
def Nss (w : World) (v : Value) (L : List (List Int)) : Prop :=
  ∃ (p : Option Addr) (c : Nat), v = .slice p L.length c ∧ L.length ≤ 9 ∧ ∀ (i : Nat) l, L[i]? = some l → ∃ g o u, p = some ⟨g, o, none⟩ ∧ w.cell? ⟨g, o + i, none⟩ = some u ∧ Ns w u l

set_option maxRecDepth 100000 in
set_option maxHeartbeats 1000000 in
theorem light_any {w : World} {v : Value} {L : List (List Int)} (h : Nss w v L) : Calls Try.prog 11 #[v] w fun e w' => e = .returned (.bool (lightN L)) ∧ w = w' := by
  obtain ⟨p, c, rfl, h9, hc⟩ := h
  have HC := hide hc
  clear hc
  go_enter Try.func11, Try.ntmps11
  go_wp2
  go_loop [7] (fun i => ∃ k : Nat, k ≤ L.length ∧ i = .int .i64 k ∧ Hid (lightN L = lightN (L.drop k))) (fun i => L.length - (intOf i).toNat)
  case atStart => exact ⟨0, by omega, rfl, hide (by rw [List.drop_zero])⟩
  case round =>
    obtain ⟨k, hk, rfl, HR⟩ := hrel
    by_cases hlt : k < L.length
    · obtain ⟨g, o, u, rfl, hcell, hu⟩ := HC.out k _ (List.getElem?_eq_getElem hlt)
      have HD : Hid (L.drop k = L[k] :: L.drop (k + 1)) := hide (List.drop_eq_getElem_cons hlt)
      obtain ⟨x, hx⟩ : ∃ x, L[k] = x := ⟨_, rfl⟩
      rw [hx] at HD hu
      obtain ⟨pu, nu, cu, rfl⟩ := hu.sl
      have hnu := hu.len
      obtain ⟨hn1, hn2, hn3⟩ := hnu
      have hn4 : (nu : Int) ≤ 9223372036854775807 := by unfold maxLen at hn3; omega
      clear hn2 hn3 hu hx
      by_cases h3 : nu ≤ 300
      · have e1 : decide ((300 : Int) < nu) = false := by simp; omega
        have HX : Hid (lightN L = lightN (L.drop (k + 1))) := hide (by
          rw [HR.out, HD.out]
          unfold lightN
          rw [List.all_cons, decide_eq_true (by omega), Bool.true_and])
        clear HD HR hn1 h3
        go_wp2
        go_round
        case rel => exact ⟨k + 1, by omega, by go_num, HX⟩
        case measure => simp [intOf]; omega
      · have e1 : decide ((300 : Int) < nu) = true := by simp; omega
        have HX : Hid (lightN L = false) := hide (by
          rw [HR.out, HD.out]
          unfold lightN
          rw [List.all_cons, decide_eq_false (by omega), Bool.false_and])
        clear HD HR hn1 h3
        go_wp2
        go_ret
        exact ⟨ret_b HX.out, rfl⟩
    · have HX : Hid (lightN L = true) := hide (by
        rw [HR.out, List.drop_eq_nil_of_le (by omega)]
        rfl)
      clear HR HC
      go_wp2
      go_ret
      exact ⟨ret_b HX.out, rfl⟩
end Go.Proofs.Ytmiphealijbndaa
