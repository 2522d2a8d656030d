/- same; the document's Sum. -/
import Derived.Test.YtimjplkehlgelaaGreatSoFacts
namespace Go.Proofs.YtimjplkehlgelaaGreat
set_option linter.unusedVariables false
set_option linter.unusedSimpArgs false
open Go.RowKit

theorem eqI_any {w : World} {B B' n : Nat} {v u : Value} {l : List Int} (hv : w.ownsRow B 3 1 v n (l.map (Value.int .i64))) (hu : w.ownsRow B' 3 1 u n (l.map (Value.int .i64))) : Calls Tryz.prog 42 #[v, u] w fun e w' => e = .returned (.bool true) ∧ Below w.heap.size w w' := by
  obtain ⟨p, c, rfl, hn, hm, hcl⟩ := ints_row hv
  obtain ⟨q, d, rfl, _, _, hcl2⟩ := ints_row hu
  have hmx : maxLen = 9223372036854775807 := rfl
  by_cases h0 : 0 < n
  · obtain ⟨g, rfl, _, hc⟩ := hcl h0
    obtain ⟨g', rfl, _, hc'⟩ := hcl2 h0
    have e1 : ∀ j, (hj : j < l.length) → l.getD j 0 = l[j] := fun j hj => by simp [List.getD, hj]
    refine (Tryz.slices_Equal_int g 0 n c g' 0 n d l l w (by omega) (by omega) (by omega) (by omega) (fun j hj => by rw [e1 j hj, Nat.zero_add]; exact hc j _ (List.getElem?_eq_getElem hj)) (fun j hj => by rw [e1 j hj, Nat.zero_add]; exact hc' j _ (List.getElem?_eq_getElem hj))).mono fun e w' ⟨he, q, hw⟩ => ⟨?_, by rw [hw]; exact bdrew w q⟩
    rw [he]
    simp
  · obtain rfl : n = 0 := by omega
    refine (Tryz.slices_Equal_int_empty p q c 0 d w (by omega)).mono fun e w' ⟨he, hw⟩ => ⟨?_, by rw [hw]; exact Below.refl _ _⟩
    rw [he]
    rfl
set_option maxRecDepth 200000 in
set_option maxHeartbeats 2000000 in
theorem refSum_any (w : World) (a b : Cn) (ha : a.sum ≤ 1000000) (hb : b.sum ≤ 1000000) : Calls Tryz.prog 41 #[cnV a, cnV b] w fun e w' => e = .returned (cnV (a.plus b)) ∧ Below w.heap.size w w' := by
  obtain ⟨a0, a1, a2, a3, a4⟩ := a
  obtain ⟨b0, b1, b2, b3, b4⟩ := b
  unfold Cn.sum at ha hb
  unfold cnV Cn.plus
  dsimp only at *
  have h0 : (a0 : Int) ≤ 1000000 := by omega
  have h1 : (a1 : Int) ≤ 1000000 := by omega
  have h2 : (a2 : Int) ≤ 1000000 := by omega
  have h3 : (a3 : Int) ≤ 1000000 := by omega
  have h4 : (a4 : Int) ≤ 1000000 := by omega
  have k0 : (b0 : Int) ≤ 1000000 := by omega
  have k1 : (b1 : Int) ≤ 1000000 := by omega
  have k2 : (b2 : Int) ≤ 1000000 := by omega
  have k3 : (b3 : Int) ≤ 1000000 := by omega
  have k4 : (b4 : Int) ≤ 1000000 := by omega
  clear ha hb
  go_enter Tryz.func41, Tryz.ntmps41
  go_wp2
  refine bodyPost_ret (v := .agg #[.int .i64 ((a0 : Int) + b0), .int .i64 ((a1 : Int) + b1), .int .i64 ((a2 : Int) + b2), .int .i64 ((a3 : Int) + b3), .int .i64 ((a4 : Int) + b4)]) (by
    simp [results, Tryz.results41, go_sem]) rfl ⟨by simp only [Int.natCast_add], ?_⟩
  have h1 := (Below.refl w.heap.size w).alloc (Nat.le_refl _) (.cells #[.int .i64 ((a0 : Int) + b0), .int .i64 ((a1 : Int) + b1), .int .i64 ((a2 : Int) + b2), .int .i64 ((a3 : Int) + b3), .int .i64 ((a4 : Int) + b4)] 40)
  have h2 := h1.alloc h1.size (.cells #[.int .i64 b0, .int .i64 b1, .int .i64 b2, .int .i64 b3, .int .i64 b4] 40)
  exact h2.alloc h2.size _
set_option maxRecDepth 200000 in
set_option maxHeartbeats 4000000 in
theorem ssame_any {w : World} {gs bm gs2 bm2 : Nat} {R R2 : List Tr} (h : SoIs w gs bm R) (h2 : SoIs w gs2 bm2 R2) (he : R2.map Tr.pl = R.map Tr.pl) : Calls Tryz.prog 25 #[.pointer (some ⟨gs, 0, none⟩), .pointer (some ⟨gs2, 0, none⟩)] w fun e w' => e = .returned (.bool true) ∧ Below w.heap.size w w' := by
  have HA := hide (fun V (hV : Below w.heap.size w V) => h.below hV)
  have HB := hide (fun V (hV : Below w.heap.size w V) => h2.below hV)
  have HE := hide he
  have HOK := hide h.ok
  have hl2 : R2.length = R.length := by have := congrArg List.length he; simpa using this
  have hl32 := h.len
  obtain ⟨n, hn⟩ : ∃ n, R.length = n := ⟨_, rfl⟩
  rw [hn] at hl32 hl2
  have HL := hide (And.intro hn hl2)
  clear h h2 he hn hl2
  go_enter Tryz.func25, Tryz.ntmps25
  go_wp2_with fail
  refine (straces_any (HA.out _ (Below.refl _ _))).mono ?_
  intro e w1 hp
  obtain ⟨v1, rfl, hrow1, hb1⟩ := hp
  rw [HL.out.1] at hrow1
  obtain ⟨p1, c1, rfl, _, _, hcl⟩ := ints_row hrow1
  have HB1 := hide hb1
  have HR1 := hide hrow1
  clear hrow1 hb1 hcl
  go_wp2_with fail
  refine (straces_any (HB.out _ HB1.out)).mono ?_
  intro e w2 hp
  obtain ⟨v2, rfl, hrow2, hb2⟩ := hp
  rw [HL.out.2, tr_fst, HE.out, ← tr_fst] at hrow2
  have hr1 := row_below HR1.out hb2
  have HB2 := hide (HB1.out.trans (hb2.mono HB1.out.size))
  have HEQ := hide (eqI_any hr1 hrow2)
  have HR1' := hide hr1
  obtain ⟨p2, c2, rfl, _⟩ := ints_row hrow2
  clear hrow2 hb2 hr1
  go_wp2_with fail
  refine HEQ.out.mono ?_
  rintro e w3 ⟨rfl, hb3⟩
  have HB3 := hide (HB2.out.trans (hb3.mono HB2.out.size))
  have HR3 := hide (row_below HR1'.out hb3)
  clear hb3 HEQ
  go_wp2_with fail
  refine (simage_any (HA.out _ HB3.out)).mono ?_
  intro e w4 hp
  obtain ⟨v4, rfl, ho4, hb4⟩ := hp
  obtain ⟨p4, n4, c4, rfl⟩ := ho4.by_.sl
  have HI4 := hide ho4.by_
  have HB4 := hide (HB3.out.trans (hb4.mono HB3.out.size))
  have HR4 := hide (row_below HR3.out hb4)
  clear ho4 hb4
  go_wp2_with fail
  refine (simage_any (HB.out _ HB4.out)).mono ?_
  intro e w5 hp
  obtain ⟨v5, rfl, ho5, hb5⟩ := hp
  rw [HE.out] at ho5
  have HEQ := hide (equal_any (HI4.out.below hb5) ho5.by_)
  rw [show (imgS (R.map Tr.pl) == imgS (R.map Tr.pl)) = true by simp] at HEQ
  obtain ⟨p5, n5, c5, rfl⟩ := ho5.by_.sl
  have HB5 := hide (HB4.out.trans (hb5.mono HB4.out.size))
  have HR5 := hide (row_below HR4.out hb5)
  clear ho5 hb5
  go_wp2_with fail
  refine HEQ.out.mono ?_
  rintro e w6 ⟨rfl, rfl⟩
  clear HEQ
  obtain ⟨p1', c1', he1, hl1, hm1, hcl⟩ := ints_row HR5.out
  injection he1 with he1 _ he2
  subst he1 he2
  have HCL := hide hcl
  have hmi : (n : Int) ≤ 9223372036854775807 := by omega
  clear hcl hm1 hl1
  go_wp2_with fail
  go_loopw [7, 25] (fun _ i wr => ∃ k : Nat, k ≤ n ∧ i = .int .i64 k ∧ Hid (Below w5.heap.size w5 wr)) (fun _ i _ => n - (intOf i).toNat)
  case atStart => exact ⟨0, by omega, rfl, hide (Below.refl _ _)⟩
  case round =>
    obtain ⟨k, hk, rfl, HR⟩ := hrel
    by_cases hlt : k < n
    · obtain ⟨y, hy⟩ : ∃ y, R[k]? = some y := ⟨_, List.getElem?_eq_getElem (by have := HL.out.1; omega)⟩
      obtain ⟨gk, rfl, hgk', hc⟩ := HCL.out (by omega)
      have ck : wr.cell? ⟨gk, k, none⟩ = some (.int .i64 y.t) := (HR.out.cell (p := ⟨gk, k, none⟩) hgk').trans (hc k y.t (by simp [hy]))
      have hyo := HOK.out.ok y.pl (List.mem_map.2 ⟨y, List.mem_of_getElem? hy, rfl⟩)
      have hwf : (Lit.int .i64 y.t).wf = true := WalkArith.wf_i64 (by have h1 : 1 ≤ y.t := hyo.2.2.1; have h2 : y.t ≤ 1099511627776 := hyo.2.2.2; omega)
      have hbr : Below w.heap.size w wr := HB5.out.trans (HR.out.mono HB5.out.size)
      have HLW := hide (fun V (hV : Below wr.heap.size wr V) => slookup_any (HA.out _ (hbr.trans (hV.mono hbr.size))) hwf)
      have HLS := hide (fun V (hV : Below wr.heap.size wr V) => slookup_any (HB.out _ (hbr.trans (hV.mono hbr.size))) hwf)
      obtain ⟨t, ht⟩ : ∃ t, y.t = t := ⟨_, rfl⟩
      rw [ht] at ck HLW HLS
      clear hy hc hyo hwf hgk' hbr ht
      go_wp2_with fail
      refine (HLW.out _ (Below.refl _ _)).mono ?_
      rintro e w7 ⟨v7, rfl, ho7, hb7⟩
      have HB7 : Hid (Below wr.heap.size wr w7) := hide hb7
      obtain ⟨p7, n7, c7, rfl⟩ := ho7.brs.sl
      have HO7 := hide ho7.brs
      clear ho7 hb7
      go_wp2_with fail
      refine (HLS.out _ HB7.out).mono ?_
      rintro e w8 ⟨v8, rfl, ho8, hb8⟩
      rw [HE.out] at ho8
      have HB8 : Hid (Below wr.heap.size wr w8) := hide (HB7.out.trans (hb8.mono HB7.out.size))
      have HEQ := hide (equalBr_any (HO7.out.below hb8) ho8.brs)
      obtain ⟨p8, n8, c8, rfl⟩ := ho8.brs.sl
      rw [decide_eq_true rfl] at HEQ
      clear ho8 hb8
      go_wp2_with fail
      refine HEQ.out.mono ?_
      rintro e w9 ⟨rfl, hw9⟩
      have HB9 : Hid (Below wr.heap.size wr w9) := hide (by obtain ⟨q9, hq9⟩ := hw9; rw [hq9]; exact HB8.out.trans (bdrew w8 q9))
      clear hw9 HEQ
      go_wp2
      go_roundw
      case rel => exact ⟨k + 1, by omega, by go_num, hide (HR.out.trans (HB9.out.mono HR.out.size))⟩
      case measure => simp [intOf]; omega
    · go_wp2
      go_ret
      exact ⟨rfl, HB5.out.trans (HR.out.mono HB5.out.size)⟩
end Go.Proofs.YtimjplkehlgelaaGreat
