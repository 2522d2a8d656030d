/- The document's End, beneath and Branches. -/
import Derived.Test.YtbbdijnkgkabbaaFRefRing2
namespace Go.Proofs.Ytbbdijnkgkabbaa
set_option linter.unusedVariables false
set_option linter.unusedSimpArgs false
open Go.RowKit

theorem endP_snoc (l : List Sp) (x : Sp) : endP (l ++ [x]) = max x.e (endP l) := by
  rw [endP_perm (List.perm_append_comm (l₁ := l) (l₂ := [x]))]
  rfl

set_option maxRecDepth 200000 in
set_option maxHeartbeats 1000000 in
theorem refEnd_any {w : World} {g : Nat} {tr : Int} {L : List Sp} (h : RfIs w g tr L) (hok : FoOk tr L) : Calls Try.prog 25 #[.pointer (some ⟨g, 0, none⟩)] w fun e w' => e = .returned (.int .i64 (endP L)) ∧ Below w.heap.size w w' := by
  obtain ⟨_, vL, c1, hvL⟩ := h
  obtain ⟨pL, nL, cL, rfl⟩ := hvL.sl
  obtain rfl : nL = L.length := hvL.len.1
  have hl64 := hok.len
  have HOK := hide hok
  have HV := hide hvL
  clear hvL hok
  go_enter Try.func25, Try.ntmps25
  go_wp2_with fail
  go_loopw [3, 5, 11] (fun v3 _ ix wr => ∃ k : Nat, k ≤ L.length ∧ v3 = .int .i64 (endP (L.take k)) ∧ ix = .int .i64 k ∧ Hid (RowKit.Below w.heap.size w wr)) (fun _ _ ix _ => L.length - (intOf ix).toNat)
  case atStart => exact ⟨0, by omega, rfl, rfl, hide (Below.refl _ _)⟩
  case round =>
    obtain ⟨k, hk, rfl, rfl, HR⟩ := hrel
    obtain ⟨n, hn⟩ : ∃ n, endP (L.take k) = n := ⟨_, rfl⟩
    rw [hn]
    have hnb : 0 ≤ n ∧ n ≤ 1099511627776 := by
      rw [← hn]
      refine endP_le fun x hx => ?_
      exact ((Sp.ok_iff x).1 (HOK.out.ok x (List.mem_of_mem_take hx)).1).e2
    have HN := hide hn
    obtain ⟨hn0, hn1⟩ := hnb
    clear hn
    by_cases hlt : (k : Int) < (L.length : Int)
    · obtain ⟨gv, ov, rfl, hx⟩ := HV.out.at_ (by omega)
      obtain ⟨x, hxk⟩ : ∃ x, L[k]? = some x := ⟨_, List.getElem?_eq_getElem (by omega)⟩
      have hat := (hx k x hxk).below HR.out
      obtain ⟨oo, hoo⟩ : ∃ oo, ov + k * 6 = oo := ⟨_, rfl⟩
      rw [hoo] at hat
      have z0 := hat.c0
      have z1 := hat.c1
      have z2 := hat.c2
      have z3 := hat.c3
      have z4 := hat.c4
      have z5 := hat.c5
      have hstep : endP (L.take (k + 1)) = max x.e n := by
        rw [List.take_add_one, hxk]
        show endP (L.take k ++ [x]) = _
        rw [endP_snoc, HN.out]
      have HST := hide hstep
      clear hx hxk hat hstep
      obtain ⟨t, i, q, s, en, nn⟩ := x
      dsimp only at *
      by_cases hen : n < en
      all_goals
        go_wp2
        go_roundw
        case rel => exact ⟨k + 1, by omega, by rw [HST.out]; first | rfl | (congr 1; omega), by go_num, hide (HR.out.alloc HR.out.size _)⟩
        case measure => simp [intOf]; omega
    · have hkl : k = L.length := by omega
      have hfin : endP L = n := by have := HN.out; rwa [List.take_of_length_le (by omega)] at this
      have HF := hide hfin
      clear hfin
      go_wp2
      go_ret
      exact ⟨by rw [HF.out]; rfl, HR.out⟩

/-- What of the first spans P stands beneath a parent, as the document lays it. -/
def benQ (S P : List Sp) (m : Nat) (k d : Int) : List Br := match m with
  | 0 => []
  | m + 1 => (kids P k).flatMap fun s => ⟨d, false, s⟩ :: benP S m s.i (d + 1)
theorem benQ_all (S : List Sp) (m : Nat) (k d : Int) : benQ S S m k d = benP S m k d := by
  cases m <;> rfl
theorem benQ_no {S P : List Sp} {y : Sp} {m : Nat} {k d : Int} (h : y.p ≠ k ∨ m = 0) : benQ S (P ++ [y]) m k d = benQ S P m k d := by
  cases m with
  | zero => rfl
  | succ m =>
    rcases h with h | h
    · unfold benQ
      rw [kids_snoc, if_neg h, List.append_nil]
    · cases h
theorem benQ_yes {S P : List Sp} {y : Sp} {m : Nat} {k d : Int} (h : y.p = k) : benQ S (P ++ [y]) (m + 1) k d = benQ S P (m + 1) k d ++ ⟨d, false, y⟩ :: benP S m y.i (d + 1) := by
  simp only [benQ]
  rw [kids_snoc, if_pos h, List.flatMap_append]
  simp
theorem benQ_le {S : List Sp} {m : Nat} {k d : Int} (j : Nat) : (benQ S (S.take j) m k d).length ≤ (benP S m k d).length := by
  rw [← benQ_all S m k d]
  cases m with
  | zero => exact Nat.le_refl _
  | succ m =>
    simp only [benQ]
    have h1 : kids S k = kids (S.take j) k ++ kids (S.drop j) k := by
      unfold kids
      rw [← List.filter_append, List.take_append_drop]
    rw [h1, List.flatMap_append, List.length_append]
    omega

set_option maxRecDepth 200000 in
set_option maxHeartbeats 1000000 in
theorem refBen_step {tr : Int} {L S : List Sp} (hS : sortS L = S) (hl64 : L.length ≤ 64) (m : Nat) (k d : Int) (hd : d + m = 65) (hd0 : 0 ≤ d)
    (ih : ∀ m', m = m' + 1 → ∀ {w : World} {g : Nat} (k : Int), RfIs w g tr L → (benP S m' k (d + 1)).length ≤ 1000 → Calls Try.prog 38 #[.pointer (some ⟨g, 0, none⟩), .int .i64 k, .int .i64 (d + 1)] w fun e w' => ∃ v', e = .returned v' ∧ OwnB w.heap.size w' v' (benP S m' k (d + 1)) ∧ Below w.heap.size w w')
    {w : World} {g : Nat} (h : RfIs w g tr L) (hlen : (benP S m k d).length ≤ 1000) :
    Calls Try.prog 38 #[.pointer (some ⟨g, 0, none⟩), .int .i64 k, .int .i64 d] w fun e w' => ∃ v', e = .returned v' ∧ OwnB w.heap.size w' v' (benP S m k d) ∧ Below w.heap.size w w' := by
  have hSl : S.length = L.length := by rw [← hS]; exact sortS_length L
  have HR := hide h
  obtain ⟨_, vL, c1, hvL⟩ := h
  obtain ⟨pL, nL, cL, rfl⟩ := hvL.sl
  have HSRT := hide (refSort_any hvL (by omega))
  have IH := hide @ih
  have HLEN := hide hlen
  have hS64 : S.length ≤ 64 := by omega
  have hd65 : d ≤ 65 := by omega
  rw [hS] at HSRT
  clear hvL ih hlen hS hSl
  go_enter Try.func38, Try.ntmps38
  go_wp2_with fail
  refine HSRT.out.mono ?_
  rintro e1 X ⟨v1, rfl, ho1, hb1⟩
  obtain ⟨pS, nS, cS, rfl⟩ := ho1.sps.sl
  obtain rfl : nS = S.length := ho1.sps.len.1
  have H1 := hide (And.intro ho1.sps (And.intro hb1 (HR.out.below hb1)))
  clear ho1 hb1 c1
  go_wp2_with fail
  go_loopw [7, 9, 16] (fun v7 _ ix wr => ∃ (j : Nat) (p : Option Addr) (n c : Nat), v7 = .slice p n c ∧ j ≤ S.length ∧ ix = .int .i64 j ∧ Hid (OwnB X.heap.size wr (.slice p n c) (benQ S (S.take j) m k d) ∧ RowKit.Below X.heap.size X wr)) (fun _ _ ix _ => S.length - (intOf ix).toNat)
  case atStart =>
    refine ⟨0, none, 0, 0, rfl, by omega, rfl, hide ⟨?_, Below.refl _ _⟩⟩
    rw [List.take_zero, show benQ S [] m k d = [] by cases m <;> rfl]
    exact OwnB.nil _ _
  case round =>
    obtain ⟨j, p, n, c, rfl, hj, rfl, HJ⟩ := hrel
    by_cases hlt : (j : Int) < (S.length : Int)
    · obtain ⟨gv, ov, rfl, hx⟩ := H1.out.1.at_ (by omega)
      obtain ⟨x, hxk⟩ : ∃ x, S[j]? = some x := ⟨_, List.getElem?_eq_getElem (by omega)⟩
      have hat := (hx j x hxk).below HJ.out.2
      obtain ⟨oo, hoo⟩ : ∃ oo, ov + j * 6 = oo := ⟨_, rfl⟩
      rw [hoo] at hat
      have z0 := hat.c0
      have z1 := hat.c1
      have z2 := hat.c2
      have z3 := hat.c3
      have z4 := hat.c4
      have z5 := hat.c5
      have htk : S.take (j + 1) = S.take j ++ [x] := by rw [List.take_add_one, hxk]; rfl
      have hnew := spAt_new wr x
      have hbx := (Below.refl wr.heap.size wr).alloc (Nat.le_refl _) (.cells #[.int .i64 x.t, .int .i64 x.i, .int .i64 x.p, .int .i64 x.s, .int .i64 x.e, .string x.n] 33)
      have HX := hide (And.intro hnew (And.intro (HJ.out.2.trans (hbx.mono HJ.out.2.size)) (HJ.out.1.below hbx)))
      have HTK := hide htk
      have hle1 := benQ_le (S := S) (m := m) (k := k) (d := d) (j + 1)
      have HLE := hide hle1
      clear hx hxk hat htk hnew hbx hle1
      by_cases hyes : x.p = k ∧ m ≠ 0
      · obtain ⟨hp, hm⟩ := hyes
        obtain ⟨m', rfl⟩ : ∃ m', m = m' + 1 := ⟨m - 1, by omega⟩
        have hstep := benQ_yes (S := S) (P := S.take j) (m := m') (d := d) hp
        have hpn : ∀ i, (Value.slice p n c).ownBlock = some i → i < wr.heap.size := fun i hi => (HJ.out.1.lt i hi).2
        rw [← HTK.out] at hstep
        have hll : (benQ S (S.take j) (m' + 1) k d).length + 1 + (benP S m' x.i (d + 1)).length ≤ 1000 := by
          have h1 := HLE.out
          have h2 := HLEN.out
          rw [hstep, List.length_append, List.length_cons] at h1
          omega
        have HST := hide (And.intro hstep (And.intro hll hpn))
        have hd64 : d ≤ 64 := by omega
        clear hstep hll hpn
        obtain ⟨t, i, q, s, en, nn⟩ := x
        dsimp only at *
        subst hp
        go_wp2_with (at_builtin; go_must (refine wpList_pushB (v := .slice p n c) rfl _ _ rfl rfl ⟨d, false, ⟨t, i, q, s, en, nn⟩⟩ rfl rfl (by simp) HX.out.2.2 (by have := HX.out.2.1.size; exact this) (by have := HST.out.2.1; omega) ?_); go_loud (intro v5 w5 ho5 he5; obtain ⟨p5, n5, c5, rfl⟩ := ho5.brs.sl; have hx5 : SpAt w5 wr.heap.size 0 ⟨t, i, q, s, en, nn⟩ := (fun a b hb => cell_ext he5 (HX.out.1 a b hb) (fun e => by have := HST.out.2.2 _ e; omega)); have hb5 := HX.out.2.1.grown he5.1 HX.out.2.1.size (fun a ha => (HJ.out.1.lt a ha).1); have y1 := hx5.c1; try dsimp only [Nat.zero_add] at y1; have H5 := hide (And.intro ho5 hb5); clear ho5 he5 hx5 hb5))
        have HC := hide (IH.out m' rfl i (H1.out.2.2.below H5.out.2) (by have := HST.out.2.1; omega))
        refine HC.out.mono ?_
        rintro e6 w6 ⟨v6, rfl, ho6, hb6⟩
        obtain ⟨p6, n6, c6, rfl⟩ := ho6.brs.sl
        have H6 := hide (And.intro (H5.out.1.below hb6) (And.intro ho6.brs (H5.out.2.trans (hb6.mono H5.out.2.size))))
        have hsz6 : X.heap.size ≤ w6.heap.size := H6.out.2.2.size
        have HSZ6 := hide hsz6
        clear ho6 hb6 hsz6 y1
        go_wp2_with (at_builtin; go_must (refine wpList_pushesB rfl _ _ rfl rfl rfl rfl H6.out.1 H6.out.2.1 HSZ6.out (by have := HST.out.2.1; rw [List.length_append, List.length_singleton]; omega) ?_); intro v7 w7 ho7 hb7 hg7; obtain ⟨p7, n7, c7, rfl⟩ := ho7.brs.sl; have H7 := hide (And.intro ho7 (H6.out.2.2.trans hb7)); clear ho7 hb7 hg7)
        go_roundw
        case rel =>
          refine ⟨j + 1, p7, n7, c7, rfl, by omega, by go_num, hide ⟨?_, H7.out.2⟩⟩
          rw [HST.out.1]
          have := H7.out.1
          simpa only [List.append_assoc, List.cons_append, List.nil_append] using this
        case measure => simp [intOf]; omega
      · have hno : x.p ≠ k ∨ m = 0 := by omega
        have hstep := benQ_no (S := S) (P := S.take j) (d := d) hno
        rw [← HTK.out] at hstep
        have HST := hide hstep
        clear hstep hyes
        obtain ⟨t, i, q, s, en, nn⟩ := x
        dsimp only at *
        by_cases hp : q = k
        · have hm0 : m = 0 := by omega
          have hd65' : ¬ d ≤ 64 := by omega
          subst hp
          go_wp2
          go_roundw
          case rel => exact ⟨j + 1, p, n, c, rfl, by omega, by go_num, hide ⟨by rw [HST.out]; exact HX.out.2.2, HX.out.2.1⟩⟩
          case measure => simp [intOf]; omega
        · have hpb : (q == k) = false := beq_eq_false_iff_ne.2 hp
          go_wp2
          all_goals
            go_roundw
            case rel => exact ⟨j + 1, p, n, c, rfl, by omega, by go_num, hide ⟨by rw [HST.out]; exact HX.out.2.2, HX.out.2.1⟩⟩
            case measure => simp [intOf]; omega
    · have hjS : j = S.length := by omega
      subst hjS
      have hfin := HJ.out.1
      rw [List.take_length, benQ_all] at hfin
      have HF := hide (And.intro (hfin.mono H1.out.2.1.size) (H1.out.2.1.trans (HJ.out.2.mono H1.out.2.1.size)))
      clear hfin
      go_wp2
      go_ret
      exact ⟨_, rfl, HF.out.1, HF.out.2⟩
end Go.Proofs.Ytbbdijnkgkabbaa
