/- The law StoreRetains. -/
import Derived.Test.YtimjplkehlgelaaSoRetF
namespace Go.Proofs.Ytimjplkehlgelaa
set_option linter.unusedVariables false
set_option linter.unusedSimpArgs false
open Go.RowKit

set_option maxRecDepth 200000 in
set_option maxHeartbeats 8000000 in
theorem lawStRetains_any {w : World} {v : Value} {D : List Dn} (h : Dns w v D) (f : Int) (hf9 : (Lit.int .i64 f).wf = true) : Calls Try.prog 5 #[v, .int .i64 f] w fun e w' => e = .returned (.bool true) ∧ Below w.heap.size w w' := by
  have hal0 := (Below.refl w.heap.size w).alloc (Nat.le_refl _) (.cells #[.int .i64 f] 3)
  have hr0 := heap_alloc_new w (.cells #[.int .i64 f] 3)
  obtain ⟨W0, hW0⟩ : ∃ W0, w.alloc (.cells #[.int .i64 f] 3) = W0 := ⟨_, rfl⟩
  obtain ⟨b3, hb3⟩ : ∃ b3, w.heap.size = b3 := ⟨_, rfl⟩
  rw [hW0] at hal0 hr0
  have hc3 : W0.cell? ⟨b3, 0, none⟩ = some (.int .i64 f) := by rw [← hb3]; exact cell_of_row W0 w.heap.size 0 _ 3 (0, 0) hr0
  have HSH := hide (sshort_any (h.below hal0))
  have HA := hide sawake_any
  have HD := hide (h.below hal0)
  have HC3 := hide hc3
  have HW0 := hide hW0
  have HB3 := hide hb3
  have HAL := hide hal0
  clear h hal0 hr0 hc3 hW0 hb3
  go_enter Try.func5, Try.ntmps5
  go_wp2_with fail
  rw [HW0.out, HB3.out]
  refine HSH.out.mono ?_
  rintro e W ⟨⟨q, rfl, hq⟩, hbW⟩
  have HQ := hide hq
  have HBW := hide hbW
  clear hq hbW HSH
  cases q
  · go_wp2_with fail
    refine (HA.out _).mono ?_
    rintro e2 w2 ⟨rfl, hb2⟩
    have HB2 := hide ((HAL.out.trans (HBW.out.mono HAL.out.size)).trans (hb2.mono (Nat.le_trans HAL.out.size HBW.out.size)))
    clear hb2
    go_wp2
    go_ret
    exact ⟨rfl, HB2.out⟩
  · go_wp2_with fail
    refine (play_any (HD.out.below HBW.out) (HQ.out (by simp)).2).mono ?_
    intro e X hp
    obtain ⟨gs, bm, R, rfl, hs, hpl, hnw, hbX⟩ := hp
    have hokS := playS_ok D
    obtain ⟨S, hS⟩ : ∃ S, playS D = S := ⟨_, rfl⟩
    rw [hS] at hpl hokS
    have hbw0 := HBW.out.size
    have HX := hide (And.intro hs (And.intro hpl (And.intro hnw (And.intro hokS (HBW.out.trans (hbX.mono HBW.out.size))))))
    clear hs hpl hnw hokS hbX hS HQ HD
    go_wp2_with fail
    refine (stclone HX.out.1).mono ?_
    intro e w1 hp
    obtain ⟨gs2, bm2, R2, rfl, hs2, hpl2, hnw2, hb1⟩ := hp
    rw [HX.out.2.1] at hpl2
    have hs1 := HX.out.1.below hb1
    have hB1 : Below W0.heap.size W0 w1 := HX.out.2.2.2.2.trans (hb1.mono HX.out.2.2.2.2.size)
    have c3 : w1.cell? ⟨b3, 0, none⟩ = some (.int .i64 f) := (hB1.cell (lt_of_cell HC3.out)).trans HC3.out
    have H1 := hide (And.intro hs1 (And.intro hs2 (And.intro hpl2 (And.intro hnw2 hB1))))
    clear hs2 hpl2 hnw2 hb1 hs1 hB1
    go_wp2_with fail
    refine (sretain_any H1.out.1 f).mono ?_
    intro e w2 hp
    obtain ⟨rfl, ht2⟩ := hp
    rw [HX.out.2.1] at ht2
    have hlR : (R.length : Int) - (retR R f).length = (goneN S f : Nat) := by
      have h1 := goneN_ret S f
      rw [retR_len, HX.out.2.1]
      have h2 : R.length = S.length := by rw [← HX.out.2.1, List.length_map]
      omega
    rw [hlR]
    have hs22 : SoIs w2 gs2 bm2 R2 := H1.out.2.1.chg ht2.chg fun k hk hm => by
      have h1 := H1.out.2.2.2.1 k hk
      have h2 := HX.out.1.lt k (SoM.sub hm)
      omega
    have hB2 : Below W0.heap.size W0 w2 := Chg.to_below H1.out.2.2.2.2 ht2.chg fun k hk => Nat.le_trans hbw0 (HX.out.2.2.1 k (SoM.sub hk))
    have H2 := hide (And.intro ht2.is (And.intro ht2.pl (And.intro hs22 hB2)))
    clear ht2 hlR hs22 hB2
    obtain ⟨ng, hng⟩ : ∃ ng, goneN S f = ng := ⟨_, rfl⟩
    rw [hng]
    have HNG := hide hng
    clear hng c3
    go_wp2_with fail
    refine (straces_any H2.out.2.2.1).mono ?_
    intro e w3 hp
    obtain ⟨v3, rfl, hrow, hb3'⟩ := hp
    rw [tr_fst, H1.out.2.2.1] at hrow
    have hlR : R2.length = S.length := by rw [← H1.out.2.2.1, List.length_map]
    rw [hlR] at hrow
    obtain ⟨n, hn⟩ : ∃ n, S.length = n := ⟨_, rfl⟩
    rw [hn] at hrow
    have hn32 : n ≤ 32 := by rw [← hn]; exact HX.out.2.2.2.1.len
    have HN := hide hn
    obtain ⟨p2, c2, rfl, hl2, hmx, hcl⟩ := ints_row hrow
    have HCL := hide hcl
    have H3 := hide (And.intro (H2.out.1.below hb3') (And.intro H2.out.2.1 (And.intro (H2.out.2.2.1.below hb3') (H2.out.2.2.2.trans (hb3'.mono H2.out.2.2.2.size)))))
    have hmx' : (n : Int) ≤ 9223372036854775807 := by omega
    clear hrow hb3' hlR hn hl2 hmx hcl
    go_wp2_with fail
    go_loopw [8, 10, 11, 26] (fun g _ _ i wr => ∃ k : Nat, k ≤ n ∧ i = .int .i64 k ∧ g = .int .i64 (goneN (S.take k) f : Nat) ∧ Hid (Below w3.heap.size w3 wr)) (fun _ _ _ i _ => n - (intOf i).toNat)
    case atStart => exact ⟨0, by omega, rfl, rfl, hide (Below.refl _ _)⟩
    case round =>
      obtain ⟨k, hk, rfl, rfl, HR⟩ := hrel
      have hgk : goneN (S.take k) f ≤ k := Nat.le_trans (goneN_le _ _) (by rw [List.length_take]; omega)
      by_cases hlt : k < n
      · obtain ⟨y, hy⟩ : ∃ y, S[k]? = some y := ⟨_, List.getElem?_eq_getElem (by have := HN.out; omega)⟩
        obtain ⟨gk, rfl, hgk', hc⟩ := HCL.out (by omega)
        have ck : wr.cell? ⟨gk, k, none⟩ = some (.int .i64 y.1) := (HR.out.cell (p := ⟨gk, k, none⟩) hgk').trans (hc k y.1 (by simp [hy]))
        have hyS : y ∈ S := List.mem_of_getElem? hy
        have hyo := HX.out.2.2.2.1.ok y hyS
        have hwf : (Lit.int .i64 y.1).wf = true := WalkArith.wf_i64 (by have h1 := hyo.2.2.1; have h2 := hyo.2.2.2; omega)
        have HLW := hide (fun V (hV : Below wr.heap.size wr V) => slookup_any ((H3.out.2.2.1.below HR.out).below hV) hwf)
        have HLS := hide (fun V (hV : Below wr.heap.size wr V) => slookup_any ((H3.out.1.below HR.out).below hV) hwf)
        have e1 := lookS_of HX.out.2.2.2.1 hyS
        have e2 := lookS_ret HX.out.2.2.2.1 hyS f
        have HE := hide (And.intro e1 e2)
        have hlate := late_eq hyo.1 hyo.2.1 f
        have HLA := hide hlate
        have HTK : Hid (goneN (S.take (k + 1)) f = goneN (S.take k) f + if f ≤ endP y.2 then 0 else 1) := hide (by rw [List.take_add_one, hy]; exact goneN_snoc _ _ _)
        obtain ⟨gg, hgg⟩ : ∃ gg, goneN (S.take k) f = gg := ⟨_, rfl⟩
        rw [hgg] at HTK hgk ⊢
        have hgi : (gg : Int) ≤ 32 := by omega
        clear hy hc hyS hyo hwf hgk' e1 e2 hlate hgg
        obtain ⟨t, L⟩ := y
        dsimp only at *
        go_wp2_with fail
        refine (HLW.out _ (Below.refl _ _)).mono ?_
        rintro e w5 ⟨v5, rfl, ho5, hb5⟩
        rw [H1.out.2.2.1, HE.out.1] at ho5
        obtain ⟨p5, n5, c5, rfl⟩ := ho5.brs.sl
        have hb3w : Below W0.heap.size W0 w5 := (H3.out.2.2.2.trans (HR.out.mono H3.out.2.2.2.size)).trans (hb5.mono (Nat.le_trans H3.out.2.2.2.size HR.out.size))
        have HCN := hide (contains_any ho5.brs ((hb3w.cell (lt_of_cell HC3.out)).trans HC3.out))
        rw [HLA.out] at HCN
        have HB5 := hide hb5
        clear ho5 hb5 hb3w
        go_wp2_with fail
        refine HCN.out.mono ?_
        rintro e w6 ⟨rfl, hb6⟩
        have HB6 : Hid (Below wr.heap.size wr w6) := hide (HB5.out.trans (hb6.mono HB5.out.size))
        clear hb6 HCN
        by_cases hl : f ≤ endP L
        · rw [decide_eq_true hl]
          rw [if_pos hl] at HE HTK
          clear hl
          go_wp2_with fail
          refine (HLW.out _ HB6.out).mono ?_
          rintro e w7 ⟨v7, rfl, ho7, hb7⟩
          rw [H1.out.2.2.1, HE.out.1] at ho7
          have HB7 : Hid (Below wr.heap.size wr w7) := hide (HB6.out.trans (hb7.mono HB6.out.size))
          obtain ⟨p7, n7, c7, rfl⟩ := ho7.brs.sl
          have HO7 := hide ho7.brs
          clear ho7 hb7
          go_wp2_with fail
          refine (HLS.out _ HB7.out).mono ?_
          rintro e w8 ⟨v8, rfl, ho8, hb8⟩
          rw [H3.out.2.1, HE.out.2] at ho8
          have HB8 : Hid (Below wr.heap.size wr w8) := hide (HB7.out.trans (hb8.mono HB7.out.size))
          have HEQ := hide (equalBr_any (HO7.out.below hb8) ho8.brs)
          obtain ⟨p8, n8, c8, rfl⟩ := ho8.brs.sl
          rw [decide_eq_true rfl] at HEQ
          clear ho8 hb8
          go_wp2_with fail
          refine HEQ.out.mono ?_
          rintro e w9 ⟨rfl, hw9⟩
          have HB9 : Hid (Below wr.heap.size wr w9) := hide (by obtain ⟨q9, hq9⟩ := hw9; rw [hq9]; exact HB8.out.trans (bdrew w8 q9))
          clear hw9 HEQ
          go_wp2
          go_roundw
          case rel => exact ⟨k + 1, by omega, by go_num, by rw [HTK.out]; rfl, hide (HR.out.trans (HB9.out.mono HR.out.size))⟩
          case measure => simp [intOf]; omega
        · rw [decide_eq_false hl]
          rw [if_neg hl] at HE HTK
          clear hl
          go_wp2_with fail
          refine (HLS.out _ HB6.out).mono ?_
          rintro e w8 ⟨v8, rfl, ho8, hb8⟩
          rw [H3.out.2.1, HE.out.2] at ho8
          have HB8 : Hid (Below wr.heap.size wr w8) := hide (HB6.out.trans (hb8.mono HB6.out.size))
          obtain ⟨p8, n8, c8, rfl⟩ := ho8.brs.sl
          obtain rfl : n8 = 0 := ho8.brs.len.1
          clear ho8 hb8
          go_wp2
          go_roundw
          case rel => exact ⟨k + 1, by omega, by go_num, by rw [HTK.out]; go_num, hide (HR.out.trans (HB8.out.mono HR.out.size))⟩
          case measure => simp [intOf]; omega
      · obtain rfl : k = n := by omega
        have htk : S.take k = S := List.take_of_length_le (by have := HN.out; omega)
        rw [htk, HNG.out] at hgk ⊢
        have h8 := H3.out.1.below HR.out
        have h9 := H3.out.2.2.1.below HR.out
        have HZ := hide (And.intro h8 (And.intro h9 (H3.out.2.2.2.trans (HR.out.mono H3.out.2.2.2.size))))
        have hgi : (ng : Int) ≤ 32 := by omega
        have hgki : (ng : Int) ≤ (k : Int) := by omega
        have hgm : Hid ((retR R f).length + ng = k) := hide (by rw [retR_len, HX.out.2.1]; have h1 := goneN_ret S f; rw [HNG.out] at h1; have := HN.out; omega)
        clear htk h8 h9
        go_wp2_with fail
        refine (straces_any HZ.out.1).mono ?_
        intro e w7 hp7
        obtain ⟨v7, rfl, hrow7, hb7⟩ := hp7
        obtain ⟨p7, c7, rfl, _⟩ := ints_row hrow7
        have HB7 := hide hb7
        obtain ⟨m7, hm7⟩ : ∃ m7, (retR R f).length = m7 := ⟨_, rfl⟩
        rw [hm7] at hgm ⊢
        have hm7k : (m7 : Int) = (k : Int) - (ng : Int) := by have := hgm.out; omega
        have HM7 := hide hm7k
        clear hrow7 hb7 hm7 hm7k
        go_wp2_with fail
        refine (straces_any (HZ.out.2.1.below HB7.out)).mono ?_
        intro e w8 hp8
        obtain ⟨v8, rfl, hrow8, hb8⟩ := hp8
        obtain ⟨p8, c8, rfl, _⟩ := ints_row hrow8
        have hl8 : R2.length = k := by rw [← HN.out, ← H1.out.2.2.1, List.length_map]
        rw [hl8]
        have HB8 := hide ((HZ.out.2.2.trans (HB7.out.mono HZ.out.2.2.size)).trans (hb8.mono (Nat.le_trans HZ.out.2.2.size HB7.out.size)))
        clear hrow8 hb8 hl8
        have heq : ((m7 : Int) == (k : Int) - (ng : Int)) = true := by rw [HM7.out]; simp
        go_wp2_with fail
        refine (HA.out _).mono ?_
        rintro e2 w9 ⟨rfl, hb9⟩
        have HB9 := hide (HAL.out.trans ((HB8.out.trans (hb9.mono HB8.out.size)).mono HAL.out.size))
        clear hb9
        go_wp2
        go_ret
        exact ⟨rfl, HB9.out⟩
end Go.Proofs.Ytimjplkehlgelaa
