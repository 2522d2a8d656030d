/- The document's ring. -/
import Derived.Test.YtbbdijnkgkabbaaFRefFind
namespace Go.Proofs.Ytbbdijnkgkabbaa
set_option linter.unusedVariables false
set_option linter.unusedSimpArgs false
open Go.RowKit

theorem RfIs.below {w w' : World} {g : Nat} {tr : Int} {L : List Sp} (h : RfIs w g tr L) (hb : Below w.heap.size w w') : RfIs w' g tr L := by
  obtain ⟨c0, v, c1, hv⟩ := h
  exact ⟨(hb.cell (lt_of_cell c0)).trans c0, v, (hb.cell (lt_of_cell c1)).trans c1, hv.below hb⟩

set_option maxRecDepth 200000 in
set_option maxHeartbeats 1000000 in
theorem refRing_any {w : World} {g : Nat} {tr : Int} {L : List Sp} (h : RfIs w g tr L) (hok : FoOk tr L) (x : Sp) (hne : x.p ≠ x.i) : Calls Try.prog 22 #[.pointer (some ⟨g, 0, none⟩), spV x] w fun e w' => e = .returned (.bool (ring L x.i x.p)) ∧ Below w.heap.size w w' := by
  have hres : ring L x.i x.p = loopR L x.i L.length x.p := (loopR_ring hok.rises hne).symm
  rw [hres]
  have hl64 := hok.len
  have hnew := spAt_new w x
  have hb1 := (Below.refl w.heap.size w).alloc (Nat.le_refl _) (.cells #[.int .i64 x.t, .int .i64 x.i, .int .i64 x.p, .int .i64 x.s, .int .i64 x.e, .string x.n] 33)
  have HR := hide (h.below hb1)
  have HB1 := hide hb1
  have HNEW := hide hnew
  obtain ⟨_, vL, c1, hvL⟩ := h.below hb1
  obtain ⟨pL, nL, cL, rfl⟩ := hvL.sl
  obtain rfl : nL = L.length := hvL.len.1
  have HC1 := hide c1
  clear h hb1 hnew hvL hres hok
  obtain ⟨t, i, q, s, en, nn⟩ := x
  unfold spV
  dsimp only at *
  go_enter Try.func22, Try.ntmps22
  go_wp2_with fail
  obtain ⟨X, hX⟩ : ∃ X, w.alloc (.cells #[.int .i64 t, .int .i64 i, .int .i64 q, .int .i64 s, .int .i64 en, .string nn] 33) = X := ⟨_, rfl⟩
  obtain ⟨gx, hgx⟩ : ∃ g, w.heap.size = g := ⟨_, rfl⟩
  rw [hX] at HR HB1 HNEW HC1
  rw [hgx] at HNEW
  rw [hX, hgx]
  clear hX hgx c1
  go_loopw [5, 6, 7, 15] (fun v5 _ _ ix wr => ∃ (k : Nat) (a : Int), k ≤ L.length ∧ v5 = .int .i64 a ∧ ix = .int .i64 k ∧ Hid (RowKit.Below X.heap.size X wr ∧ loopR L i L.length q = loopR L i (L.length - k) a)) (fun _ _ _ ix _ => L.length - (intOf ix).toNat)
  case atStart => exact ⟨0, q, by omega, rfl, rfl, hide ⟨Below.refl _ _, rfl⟩⟩
  case round =>
    obtain ⟨k, a, hk, rfl, rfl, HJ⟩ := hrel
    have hx := HNEW.out.below HJ.out.1
    have k1 := hx.c1
    dsimp only [Nat.zero_add] at k1
    have HX := hide hx
    clear hx
    by_cases hlt : k < L.length
    · have hlt2 : (k : Int) < (L.length : Int) := by omega
      have HFD := hide (refFind_any (HR.out.below HJ.out.1) a)
      obtain ⟨m, hm⟩ : ∃ m, L.length - k = m + 1 := ⟨L.length - k - 1, by omega⟩
      go_wp2_with fail
      refine HFD.out.mono ?_
      rintro e5 w5 ⟨rfl, hb5⟩
      obtain ⟨u, hu⟩ : ∃ u, (fnd L a).getD sp0 = u := ⟨_, rfl⟩
      rw [hu]
      have hx5 := (HX.out.below hb5)
      have hb6 := (Below.refl w5.heap.size w5).alloc (Nat.le_refl _) (.cells #[.int .i64 u.t, .int .i64 u.i, .int .i64 u.p, .int .i64 u.s, .int .i64 u.e, .string u.n] 33)
      have hx6 := hx5.below hb6
      have hbel6 := (HJ.out.1.trans (hb5.mono HJ.out.1.size)).trans (hb6.mono (HJ.out.1.trans (hb5.mono HJ.out.1.size)).size)
      have x1 := hx6.c1
      dsimp only [Nat.zero_add] at x1
      have HB6 := hide hbel6
      clear hb5 hx5 hb6 hx6 hbel6
      unfold spV
      cases hf : fnd L a with
      | none =>
        have hr : loopR L i (L.length - k) a = (a == i) := by rw [hm]; unfold loopR; rw [hf]
        have HRES := hide (HJ.out.2.trans hr)
        clear hr hf
        go_wp2
        go_ret
        refine ⟨?_, (HB1.out.trans (HB6.out.mono HB1.out.size))⟩
        rw [HRES.out]
        rfl
      | some u2 =>
        rw [hf, Option.getD_some] at hu
        subst hu
        by_cases hp : u2.p = i
        · have hr : loopR L i (L.length - k) a = true := by rw [hm]; unfold loopR; rw [hf]; simp only [if_pos hp]
          have HRES := hide (HJ.out.2.trans hr)
          subst hp
          clear hr hf
          go_wp2
          go_ret
          exact ⟨by rw [HRES.out]; rfl, (HB1.out.trans (HB6.out.mono HB1.out.size))⟩
        · have hr : loopR L i (L.length - k) a = loopR L i m u2.p := by rw [hm]; conv => lhs; unfold loopR; rw [hf]; simp only [if_neg hp]
          have HRES := hide (HJ.out.2.trans hr)
          have hpb : (u2.p == i) = false := beq_eq_false_iff_ne.2 hp
          clear hr hf
          go_wp2
          all_goals
            go_roundw
            case rel => exact ⟨k + 1, u2.p, by omega, rfl, by go_num, hide ⟨HB6.out, by rw [HRES.out]; congr 1; omega⟩⟩
            case measure => simp [intOf]; omega
    · have hk2 : L.length - k = 0 := by omega
      have hr : loopR L i (L.length - k) a = (a == i) := by rw [hk2]; rfl
      have HRES := hide (HJ.out.2.trans hr)
      have hlt2 : ¬ (k : Int) < (L.length : Int) := by omega
      clear hr
      go_wp2
      go_ret
      refine ⟨?_, (HB1.out.trans (HJ.out.1.mono HB1.out.size))⟩
      rw [HRES.out]
      rfl
end Go.Proofs.Ytbbdijnkgkabbaa
