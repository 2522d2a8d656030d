/- The law's own parts: light, one, awake. -/
import Derived.Test.YtllpminhcfbkcabSpGet
import Derived.Test.YtllpminhcfbkcabSpPut
import Derived.Test.YtllpminhcfbkcabSpEq
namespace Go.Proofs.Ytllpminhcfbkcab
set_option linter.unusedVariables false
set_option linter.unusedSimpArgs false
open Go.RowKit

/-- Names' bytes, each counted to 65537. -/
def namesN (l : List Sp) : Nat := (l.map fun x => min x.n.size 65537).sum
def lightL (l : List Sp) : Bool := decide (l.length ≤ 200) && decide (namesN (l.take 201) ≤ 65536)
theorem namesN_succ {l : List Sp} {k : Nat} {x : Sp} (h : l[k]? = some x) : namesN (l.take (k + 1)) = namesN (l.take k) + min x.n.size 65537 := by
  unfold namesN
  rw [List.take_add_one, h]
  simp
theorem namesN_le (l : List Sp) (k : Nat) : namesN (l.take k) ≤ 65537 * k := by
  induction k generalizing l with
  | zero => simp [namesN]
  | succ k ih =>
    cases l with
    | nil => simp [namesN]
    | cons x r =>
      have := ih r
      simp only [namesN, List.take_succ_cons, List.map_cons, List.sum_cons] at this ⊢
      omega

set_option maxRecDepth 200000 in
set_option maxHeartbeats 1000000 in
/-- light. -/
theorem light_any {w : World} {v : Value} {l : List Sp} (hv : Sps w v l) (hn9 : ∀ x ∈ l, x.n.size ≤ maxLen) : Calls Try.prog 11 #[v] w fun e w' => e = .returned (.bool (lightL l)) ∧ w' = w := by
  obtain ⟨p, n, c, rfl⟩ := hv.sl
  obtain ⟨hn, hnc, hcm⟩ := hv.len
  have HV := hide hv
  have HN := hide hn
  have HM := hide hn9
  have hnm : (n : Int) ≤ 9223372036854775807 := by unfold maxLen at hcm; omega
  clear hv hn hn9
  go_enter Try.func11, Try.ntmps11
  go_wp2_with fail
  go_loopw [3, 4] (fun z i wr => ∃ k : Nat, k ≤ min n 201 ∧ z = .int .i64 (namesN (l.take k) : Nat) ∧ i = .int .i64 k ∧ wr = w) (fun _ i _ => 201 - (intOf i).toNat)
  case atStart => exact ⟨0, by omega, by simp [namesN], rfl, rfl⟩
  case round =>
    obtain ⟨k, hk, rfl, rfl, rfl⟩ := hrel
    have hsn := namesN_le l k
    obtain ⟨sn, hsn2⟩ : ∃ sn, sn = namesN (l.take k) := ⟨_, rfl⟩
    rw [← hsn2] at hsn ⊢
    have HSN := hide hsn2
    have hsi : (sn : Int) ≤ 65537 * 201 := by omega
    clear hsn2 hsn
    by_cases hkl : k < n ∧ k ≤ 200
    · obtain ⟨h1, h2⟩ := hkl
      have h1i : (k : Int) < (n : Int) := by omega
      have h2i : (k : Int) ≤ 200 := by omega
      obtain ⟨g, o, rfl, hx⟩ := HV.out.at_ (by omega)
      obtain ⟨x, hxk⟩ : ∃ x, l[k]? = some x := ⟨_, List.getElem?_eq_getElem (by have := HN.out; omega)⟩
      have hat := (hx k x hxk)
      have c5 := hat.c5
      have hxn := HM.out x (List.mem_of_getElem? hxk)
      have hmi : (x.n.size : Int) ≤ 9223372036854775807 := by unfold maxLen at hxn; omega
      have HXK := hide hxk
      clear hx hxk hat hxn
      go_wp2
      all_goals
        go_roundw
        case rel =>
          refine ⟨k + 1, by omega, ?_, by go_num, by trivial⟩
          rw [namesN_succ HXK.out, ← HSN.out]
          first | rfl | (congr 1; omega) | (congr 1; simp; omega)
        case measure => simp [intOf]; omega
    · have hres : lightL l = (decide ((n : Int) ≤ 200) && decide ((sn : Int) ≤ 65536)) := by
        have hl : (l.take 201) = l.take k ∨ 200 < n := by
          by_cases h : 200 < n
          · exact .inr h
          · exact .inl (by rw [List.take_of_length_le (by have := HN.out; omega), List.take_of_length_le (by have := HN.out; omega)])
        unfold lightL
        rw [← HN.out]
        rcases hl with hl | hl
        · rw [hl, ← HSN.out]
          congr 1
          · rw [decide_eq_decide]; omega
          · rw [decide_eq_decide]; omega
        · rw [decide_eq_false (show ¬ n ≤ 200 by omega), decide_eq_false (show ¬ (n : Int) ≤ 200 by omega)]
          rfl
      have hkk : ¬ ((k : Int) < (n : Int)) ∨ ((k : Int) < (n : Int) ∧ ¬ (k : Int) ≤ 200) := by omega
      have HRES := hide hres
      clear hres hkl
      rcases hkk with h1 | ⟨h1, h2⟩
      all_goals
        go_wp2
        all_goals
          go_ret
          refine ⟨?_, rfl⟩
          rw [HRES.out]
          first | rfl | (simp; omega) | (simp_all; omega) | simp_all

theorem one_bytes : encL [⟨1, 2, 0, 5, 7, ⟨#[97]⟩⟩] = [1, 1, 2, 0, 5, 2, 1, 97] := by
  have h1 : digits 1 = [1] := digits_small (by decide)
  have h2 : digits 2 = [2] := digits_small (by decide)
  have h0 : digits 0 = [0] := digits_small (by decide)
  have h5 : digits 5 = [5] := digits_small (by decide)
  simp [encL, Sp.bytes, Sp.nl, h1, h2, h0, h5]
def oneS : Sp := ⟨1, 2, 0, 5, 7, ⟨#[97]⟩⟩
theorem oneS_ok : oneS.ok = true := by decide
def zeroS : Sp := ⟨0, 0, 0, 0, 0, ⟨#[]⟩⟩
theorem zeroS_bad : zeroS.ok = false := by decide
theorem oneS_put : putB [oneS] = ([1, 1, 2, 0, 5, 2, 1, 97], 0) := by
  unfold putB
  rw [show [oneS].all Sp.ok = true by rw [List.all_cons, oneS_ok]; rfl, if_pos rfl]
  rw [show encL [oneS] = _ from one_bytes]
theorem oneS_get : getP [1, 1, 2, 0, 5, 2, 1, 97] = ([oneS], 0) := by
  rw [← one_bytes]
  exact getP_enc [oneS] (by decide) (by intro x hx; simp at hx; subst hx; exact oneS_ok)

set_option maxRecDepth 200000 in
set_option maxHeartbeats 1000000 in
theorem one_any (w : World) : Calls Try.prog 27 #[] w fun e w' => e = .returned (spV oneS) ∧ Below w.heap.size w w' := by
  go_enter Try.func27, Try.ntmps27
  go_wp2
  refine bodyPost_ret (v := spV oneS) (by simp [results, Try.results27, go_sem]; rfl) rfl ⟨rfl, (Below.refl _ _).alloc (Nat.le_refl _) _⟩

theorem sps_lit (w : World) (x : Sp) : Sps (w.alloc (.cells #[.int .i64 x.t, .int .i64 x.i, .int .i64 x.p, .int .i64 x.s, .int .i64 x.e, .string x.n] 23)) (.slice (some ⟨w.heap.size, 0, none⟩) 1 1) [x] :=
  ⟨_, 1, rfl, Nat.le_refl _, by decide, (fun e => by cases e), fun _ => ⟨_, 0, rfl, fun i y hi => by
    match i, hi with
    | 0, hi => simp at hi; subst hi; exact spAt_new w x⟩⟩

theorem bel_drewN {B : Nat} {w V : World} (h : Below B w V) (q : Nat) : Below B w (V.drewN q) := ⟨h.os, h.tape, h.output, h.size, h.block⟩
/-- What the law reads of a world. -/
def AwS (W : World) (q2 : Option Addr) (m2 c2 g3 o3 : Nat) : Prop :=
  (convert 31 9 (.slice q2 m2 c2)).run Try.prog W = .ok (.string ⟨#[1, 1, 2, 0, 5, 2, 1, 97]⟩) W ∧ W.cell? ⟨g3, o3, none⟩ = some (.int .i64 1) ∧ W.cell? ⟨g3, o3 + 1, none⟩ = some (.int .i64 2) ∧ W.cell? ⟨g3, o3 + 2, none⟩ = some (.int .i64 0) ∧ W.cell? ⟨g3, o3 + 3, none⟩ = some (.int .i64 5) ∧ W.cell? ⟨g3, o3 + 4, none⟩ = some (.int .i64 7) ∧ W.cell? ⟨g3, o3 + 5, none⟩ = some (.string ⟨#[97]⟩)

set_option maxRecDepth 200000 in
set_option maxHeartbeats 4000000 in
theorem awake_any (w : World) : Calls Try.prog 12 #[] w fun e w' => e = .returned (.bool true) ∧ Below w.heap.size w w' := by
  have H1 := hide one_any
  go_enter Try.func12, Try.ntmps12
  go_wp2_with fail
  refine (H1.out _).mono ?_
  rintro e1 w1 ⟨rfl, hb1⟩
  have HB1 := hide hb1
  have HL1 := hide (sps_lit w1 oneS)
  have HA1 := hide (show Below w1.heap.size w1 (w1.alloc (.cells #[.int .i64 1, .int .i64 2, .int .i64 0, .int .i64 5, .int .i64 7, .string ⟨#[97]⟩] 23)) from (Below.refl _ _).alloc (Nat.le_refl _) _)
  clear hb1
  unfold spV oneS
  go_wp2_with fail
  refine (put_any HL1.out (by decide) (by intro x hx; simp at hx; subst hx; decide) oneS_put).mono ?_
  rintro e2 w2 ⟨v2, rfl, ho2, hb2⟩
  obtain ⟨q2, m2, c2, rfl⟩ := ho2.by_.sl
  have hO2 := hide ho2.by_
  have HB2 := hide (HB1.out.trans ((HA1.out.trans (hb2.mono HA1.out.size)).mono HB1.out.size))
  clear ho2 hb2
  go_wp2_with fail
  refine (get_any hO2.out (by decide) oneS_get).mono ?_
  rintro e3 w3 ⟨v3, rfl, ho3, hb3⟩
  obtain ⟨p3, n3, c3, rfl⟩ := ho3.sps.sl
  obtain ⟨hn3, hc3, hm3⟩ := ho3.sps.len
  obtain rfl : n3 = 1 := hn3
  obtain ⟨g3, o3, rfl, hx3⟩ := ho3.sps.at_ (by decide)
  have hat := hx3 0 oneS rfl
  rw [Nat.zero_mul, Nat.add_zero] at hat
  have HBY3 := hO2.out.below hb3
  have HB3 := hide (HB2.out.trans (hb3.mono HB2.out.size))
  have hconv : ∀ V, Below w3.heap.size w3 V → (convert 31 9 (.slice q2 m2 c2)).run Try.prog V = .ok (.string ⟨#[1, 1, 2, 0, 5, 2, 1, 97]⟩) V := fun V hV => by
    have := conv_at (HBY3.below hV)
    rwa [str_eq] at this
  have hS : ∀ V, Below w3.heap.size w3 V → AwS V q2 m2 c2 g3 o3 := fun V hV => by
    have hz := hat.below hV
    exact ⟨hconv _ hV, hz.c0, hz.c1, hz.c2, hz.c3, hz.c4, hz.c5⟩
  have hone : ∀ V, Below w3.heap.size w3 V → Calls Try.prog 27 #[] V fun e w' => e = .returned (.agg #[.int .i64 1, .int .i64 2, .int .i64 0, .int .i64 5, .int .i64 7, .string ⟨#[97]⟩]) ∧ Hid (Below w3.heap.size w3 w') ∧ AwS w' q2 m2 c2 g3 o3 := fun V hV =>
    (one_any V).mono fun e w' ⟨he, hb⟩ => ⟨he, hide (hV.trans (hb.mono hV.size)), hS _ (hV.trans (hb.mono hV.size))⟩
  have hchk : ∀ V, Below w3.heap.size w3 V → Calls Try.prog 13 #[.agg #[.int .i64 0, .int .i64 0, .int .i64 0, .int .i64 0, .int .i64 0, .string ⟨#[]⟩]] V fun e w' => e = .returned (.int .i64 30) ∧ Hid (Below w3.heap.size w3 w') ∧ AwS w' q2 m2 c2 g3 o3 := fun V hV =>
    (check_any zeroS (by decide) V).mono fun e w' ⟨he, hb⟩ => ⟨by rw [he, zeroS_bad]; rfl, hide (hV.trans (hb.mono hV.size)), hS _ (hV.trans (hb.mono hV.size))⟩
  have hk0 : Hid (Below w3.heap.size w3 w3) := hide (Below.refl _ _)
  have hS0 := hS w3 (Below.refl _ _)
  have heq := fun W => sp_eql oneS oneS W
  have heg := fun W => run_eqGuard_agg (P := Try.prog) W .eql 23 (.tmp 35) (.tmp 36) (spC oneS).toArray (spC oneS).toArray (by kernel_rfl)
  rw [decide_eq_true rfl] at heq
  simp only [spC, oneS] at heq heg
  have HSA := hide hS
  have HO := hide hone
  have HC := hide hchk
  clear hO2 ho3 hx3 hat hb3 HBY3 hconv hS hone hchk hc3 hm3
  unfold AwS at hS0
  go_wp2_with fail
  go_region_held3 (fun W => (convert 31 9 (.slice q2 m2 c2)).run Try.prog W = .ok (.string ⟨#[1, 1, 2, 0, 5, 2, 1, 97]⟩) W ∧ W.cell? ⟨g3, o3, none⟩ = some (.int .i64 1) ∧ W.cell? ⟨g3, o3 + 1, none⟩ = some (.int .i64 2) ∧ W.cell? ⟨g3, o3 + 2, none⟩ = some (.int .i64 0) ∧ W.cell? ⟨g3, o3 + 3, none⟩ = some (.int .i64 5) ∧ W.cell? ⟨g3, o3 + 4, none⟩ = some (.int .i64 7) ∧ W.cell? ⟨g3, o3 + 5, none⟩ = some (.string ⟨#[97]⟩)) (first | exact HSA.out _ (bel_drewN hk0.out _) | exact HSA.out _ hk0.out | exact HSA.out _ (bel_drewN k1.out _) | exact HSA.out _ k1.out | exact HSA.out _ (bel_drewN k2.out _) | exact HSA.out _ k2.out) (first
    | (go_at_call 27; refine (HO.out _ (by first | exact bel_drewN k2.out _ | exact k2.out | exact bel_drewN hk0.out _ | exact hk0.out)).mono ?_; rintro e v1 ⟨rfl, k1, s1⟩)
    | (go_at_call 13; refine (HC.out _ (by first | exact bel_drewN k1.out _ | exact k1.out | exact bel_drewN hk0.out _ | exact hk0.out)).mono ?_; rintro e v2 ⟨rfl, k2, s2⟩))
  all_goals
    go_wp2
    go_ret
    exact ⟨rfl, HB3.out.trans ((by first | exact k2.out | exact k1.out : Below w3.heap.size w3 _).mono HB3.out.size)⟩
end Go.Proofs.Ytllpminhcfbkcab
