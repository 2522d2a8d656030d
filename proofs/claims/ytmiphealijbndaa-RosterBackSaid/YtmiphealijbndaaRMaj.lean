/- A majority; whether voters may be followed by others. -/
import Derived.Test.YtmiphealijbndaaRPush
import Derived.WalkKit
namespace Go.Proofs.Ytmiphealijbndaa
set_option linter.unusedVariables false
set_option linter.unusedSimpArgs false
open Go.RowKit

set_option maxRecDepth 100000 in
set_option maxHeartbeats 1000000 in
theorem majority_any {w : World} {v u : Value} {V S : List Int} (hv : Ns w v V) (hu : Ns w u S) : Calls Try.prog 19 #[v, u] w (Maj w V S) := by
  obtain ⟨p, m, c, rfl⟩ := hv.sl
  have hn := hv.len
  have hnl := hn.1
  subst hnl
  have hbig : V.length ≤ maxLen := Nat.le_trans hn.2.1 hn.2.2
  unfold maxLen at hbig
  have HC := hide (fun h0 : 0 < V.length => hv.at_ h0)
  have HCK := hide (check_any hv)
  have HV : Hid (∀ n : Int, Calls Try.prog 16 #[u, .int .i64 n] w (Vts w S n)) := hide fun n => votes_any hu
  clear hv hn hu
  obtain ⟨q, hq⟩ : ∃ q, okR V = q := ⟨_, rfl⟩
  cases q
  · have hci : chkI V = 100 := by unfold chkI; rw [hq]; rfl
    have HM : Hid (maj V S = false) := hide (by unfold maj; rw [hq]; rfl)
    unfold Chk at HCK
    rw [hci] at HCK
    clear hq hci HV HC
    go_enter Try.func19, Try.ntmps19
    go_wp2_with fail
    refine HCK.out.mono ?_
    rintro e w' ⟨rfl, rfl⟩
    go_wp2
    go_ret
    exact ⟨ret_b HM.out, rfl⟩
  · have hci : chkI V = 0 := by unfold chkI; rw [hq]; rfl
    have HM : Hid (maj V S = decide (V.length < 2 * among V S)) := hide (by unfold maj; rw [hq]; rfl)
    unfold Chk at HCK
    rw [hci] at HCK
    clear hq hci
    go_enter Try.func19, Try.ntmps19
    go_wp2_with fail
    refine HCK.out.mono ?_
    rintro e w' ⟨rfl, rfl⟩
    clear HCK
    go_wp2
    go_loop [5, 13] (fun y i => ∃ k a : Nat, k ≤ V.length ∧ a ≤ k ∧ i = .int .i64 k ∧ y = .int .i64 a ∧ Hid (among (V.take k) S = a)) (fun _ i => V.length - (intOf i).toNat)
    case atStart => exact ⟨0, 0, by omega, by omega, rfl, rfl, hide rfl⟩
    case round =>
      obtain ⟨k, a, hk, ha, rfl, rfl, HR⟩ := hrel
      by_cases hlt : k < V.length
      · obtain ⟨g, o, rfl, hc⟩ := HC.out (by omega)
        have hx := List.getElem?_eq_getElem hlt
        have hcell := hc k _ hx
        have HD := hide (among_take (S := S) hlt)
        obtain ⟨x, hxx⟩ : ∃ x, V[k] = x := ⟨_, rfl⟩
        rw [hxx] at hcell HD
        clear hx hxx hc
        go_wp2_with fail
        refine (HV.out x).mono ?_
        obtain ⟨q, hq⟩ : ∃ q, hasN S x = q := ⟨_, rfl⟩
        unfold Vts
        rw [hq] at HD ⊢
        rintro e w' ⟨rfl, rfl⟩
        clear hq
        cases q
        · have HX : Hid (among (V.take (k + 1)) S = a) := hide (by rw [HD.out, HR.out]; rfl)
          clear HD HR
          go_wp2
          go_round
          case rel => exact ⟨k + 1, a, by omega, by omega, by go_num, rfl, HX⟩
          case measure => simp [intOf]; omega
        · have HX : Hid (among (V.take (k + 1)) S = a + 1) := hide (by rw [HD.out, HR.out]; rfl)
          clear HD HR
          go_wp2
          go_round
          case rel => exact ⟨k + 1, a + 1, by omega, by omega, by go_num, by go_num, HX⟩
          case measure => simp [intOf]; omega
      · obtain rfl : k = V.length := by omega
        have HX : Hid (maj V S = decide ((V.length : Int) / 2 < a)) := hide (by
          have := HR.out
          rw [List.take_length] at this
          rw [HM.out, this, decide_eq_decide]
          omega)
        clear HR HC HM
        go_wp2
        go_ret
        exact ⟨ret_b HX.out, rfl⟩

theorem bel_drewN {B : Nat} {w V : World} (h : Below B w V) (q : Nat) : Below B w (V.drewN q) := ⟨h.os, h.tape, h.output, h.size, h.block⟩
/-- oneMore's own function: whether one is not among voters. -/
theorem notIn_any {w : World} {b : Nat} {u : Value} {S : List Int} (hb : w.cell? ⟨b, 0, none⟩ = some u) (hu : Ns w u S) (x : Int) : Calls Try.prog 36 #[.int .i64 x, .pointer (some ⟨b, 0, none⟩)] w fun e w' => e = .returned (.bool (!hasN S x)) ∧ w = w' := by
  obtain ⟨p, n, c, rfl⟩ := hu.sl
  have HV := hide (votes_any (n := x) hu)
  clear hu
  obtain ⟨q, hq⟩ : ∃ q, hasN S x = q := ⟨_, rfl⟩
  unfold Vts at HV
  rw [hq] at HV ⊢
  clear hq
  go_enter Try.func36, Try.ntmps36
  go_wp2_with fail
  refine HV.out.mono ?_
  rintro e w' ⟨rfl, rfl⟩
  go_wp2
  go_ret
  exact ⟨rfl, rfl⟩
theorem oneM_eq {a b : List Int} : oneM a b = (!a.any (fun n => !hasN b n) && decide (b.length = a.length + 1)) := by
  unfold oneM hasN
  congr 1
  rw [List.any_eq_not_all_not, Bool.not_not]
  congr 1
  funext x
  rw [Bool.not_not]

set_option maxRecDepth 100000 in
set_option maxHeartbeats 1000000 in
theorem oneMore_any {w : World} {v u : Value} {a b : List Int} (hv : Ns w v a) (hu : Ns w u b) (ha9 : a.length ≤ 1000) (hb9 : b.length ≤ 1000) : Calls Try.prog 32 #[v, u] w fun e w' => e = .returned (.bool (oneM a b)) ∧ Below w.heap.size w w' := by
  obtain ⟨p, m, c, rfl⟩ := hv.sl
  obtain ⟨p2, m2, c2, rfl⟩ := hu.sl
  have hn := hv.len
  have hn2 := hu.len
  have hnl := hn.1
  have hnl2 := hn2.1
  subst hnl hnl2
  have b1 : Below w.heap.size w (w.alloc (.cells #[.slice p2 b.length c2] 22)) := (Below.refl _ _).alloc (Nat.le_refl _) _
  have hv1 := hv.below b1
  have hu1 := hu.below b1
  have hc1 : (w.alloc (.cells #[.slice p2 b.length c2] 22)).cell? ⟨w.heap.size, 0, none⟩ = some (.slice p2 b.length c2) := by
    rw [cell_of_row _ w.heap.size 0 _ _ (0, 0) (heap_alloc_new w _)]
    rfl
  have HC : Hid (Calls Try.prog 29 #[.slice p a.length c, .func (.func 36) #[] #[.pointer (some ⟨w.heap.size, 0, none⟩)]] (w.alloc (.cells #[.slice p2 b.length c2] 22)) fun e w' => e = .returned (.bool (a.any fun n => !hasN b n)) ∧ ∃ q, w' = (w.alloc (.cells #[.slice p2 b.length c2] 22)).drewN q) := by
    by_cases h0 : 0 < a.length
    · obtain ⟨g, o, rfl, hc⟩ := hv1.at_ h0
      have := Try.slices_ContainsFunc (Value.int .i64) (fun n => !hasN b n) 36 #[.pointer (some ⟨w.heap.size, 0, none⟩)] (enters_of Try.func36 (by kernel_rfl) rfl) g o a.length c a (w.alloc (.cells #[.slice p2 b.length c2] 22))
        (fun W x hb => (notIn_any ((hb.cell (p := ⟨w.heap.size, 0, none⟩) (by simp)).trans hc1) (hu1.below hb) x).mono fun e w' ⟨he, hw⟩ => ⟨he, 0, hw.symm⟩) (Nat.le_refl _) (by omega)
        (fun j hj => by
          have := hv1.getD j hj
          rw [this, List.getD_eq_getElem?_getD]
          simp [hj])
      rwa [List.take_length] at this
    · obtain rfl : a = [] := List.eq_nil_of_length_eq_zero (by omega)
      exact (Try.slices_ContainsFunc_empty (α := Int) p c _ _).mono fun e w' ⟨he, hw⟩ => ⟨he, 0, hw⟩
  have HO := hide (oneM_eq (a := a) (b := b))
  have HB := hide b1
  clear b1 hv hu hv1 hu1 hn hn2
  obtain ⟨q, hq⟩ : ∃ q, (a.any fun n => !hasN b n) = q := ⟨_, rfl⟩
  rw [hq] at HC HO
  clear hq
  obtain ⟨Y, hY⟩ : ∃ Y, w.alloc (.cells #[.slice p2 b.length c2] 22) = Y := ⟨_, rfl⟩
  rw [hY] at HC HB hc1
  go_enter Try.func32, Try.ntmps32
  cases q
  · by_cases hl : b.length = a.length + 1
    · have e1 : ((b.length : Int) == (a.length : Int) + 1) = true := by simp; omega
      have HX : Hid (oneM a b = true) := hide (by rw [HO.out, decide_eq_true hl]; rfl)
      clear HO hl
      go_wp2_with fail
      refine HC.out.mono ?_
      rintro e w' ⟨rfl, q1, hw⟩
      have hcd : w'.cell? ⟨w.heap.size, 0, none⟩ = some (.slice p2 b.length c2) := by rw [hw]; exact hc1
      have HB2 : Hid (Below w.heap.size w w') := hide (by rw [hw]; exact bel_drewN HB.out q1)
      clear hw
      go_wp2
      go_ret
      exact ⟨ret_b HX.out, HB2.out⟩
    · have e1 : ((b.length : Int) == (a.length : Int) + 1) = false := by simp; omega
      have HX : Hid (oneM a b = false) := hide (by rw [HO.out, decide_eq_false hl]; rfl)
      clear HO hl
      go_wp2_with fail
      refine HC.out.mono ?_
      rintro e w' ⟨rfl, q1, hw⟩
      have hcd : w'.cell? ⟨w.heap.size, 0, none⟩ = some (.slice p2 b.length c2) := by rw [hw]; exact hc1
      have HB2 : Hid (Below w.heap.size w w') := hide (by rw [hw]; exact bel_drewN HB.out q1)
      clear hw
      go_wp2
      go_ret
      exact ⟨ret_b HX.out, HB2.out⟩
  · have HX : Hid (oneM a b = false) := hide (by rw [HO.out]; rfl)
    clear HO
    go_wp2_with fail
    refine HC.out.mono ?_
    rintro e w' ⟨rfl, q1, hw⟩
    have hcd : w'.cell? ⟨w.heap.size, 0, none⟩ = some (.slice p2 b.length c2) := by rw [hw]; exact hc1
    have HB2 : Hid (Below w.heap.size w w') := hide (by rw [hw]; exact bel_drewN HB.out q1)
    clear hw
    go_wp2
    go_ret
    exact ⟨ret_b HX.out, HB2.out⟩
end Go.Proofs.Ytmiphealijbndaa
