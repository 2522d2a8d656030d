/- awake. -/
import Derived.Test.YtmalhdiholblgaaLMrg2
namespace Go.Proofs.Ytmalhdiholblgaa
set_option linter.unusedVariables false
set_option linter.unusedSimpArgs false
open Go.RowKit

def termsP (T : List Int) : List En := T.mapIdx fun i t => ⟨(i : Int) + 1, t, []⟩
theorem termsP_take {T : List Int} {k : Nat} {z : Int} (h : T[k]? = some z) : termsP (T.take (k + 1)) = termsP (T.take k) ++ [⟨(k : Int) + 1, z, []⟩] := by
  have hl := (List.getElem?_eq_some_iff.1 h).1
  unfold termsP
  rw [List.take_add_one, h, List.mapIdx_append]
  simp [Nat.min_eq_left (Nat.le_of_lt hl)]
theorem termsP_len (T : List Int) : (termsP T).length = T.length := by unfold termsP; simp
set_option maxRecDepth 200000 in
set_option maxHeartbeats 4000000 in
theorem terms_any {w : World} {g n c : Nat} {T : List Int} (hn : n = T.length) (h9 : n ≤ 9) (hc : ∀ (i : Nat) z, T[i]? = some z → w.cell? ⟨g, i, none⟩ = some (.int .i64 z)) (hf : ∀ z ∈ T, fits z) : Calls Try.prog 24 #[.slice (some ⟨g, 0, none⟩) n c] w (OwnPost w (termsP T)) := by
  have HC := hide hc
  have HF := hide hf
  have HN := hide hn
  clear hc hf hn
  go_enter Try.func24, Try.ntmps24
  go_wp2_with fail
  go_loopw [3, 4, 5, 8] (fun u _ _ i wr => ∃ k : Nat, k ≤ n ∧ i = .int .i64 k ∧ (∃ p n c, u = .slice p n c) ∧ Hid (OwnEns w.heap.size wr u (termsP (T.take k)) ∧ Below w.heap.size w wr)) (fun _ _ _ i _ => n - (intOf i).toNat)
  case atStart => exact ⟨0, by omega, rfl, ⟨_, _, _, rfl⟩, hide ⟨OwnEns.nil _ _, Below.refl _ _⟩⟩
  case round =>
    obtain ⟨k, hk, rfl, ⟨pu, nu, cu, rfl⟩, HR⟩ := hrel
    by_cases hlt : k < n
    · obtain ⟨z, hz⟩ : ∃ z, T[k]? = some z := ⟨_, List.getElem?_eq_getElem (by rw [← HN.out]; exact hlt)⟩
      have hcell := (HR.out.2.cell (lt_of_cell (HC.out k z hz))).trans (HC.out k z hz)
      have HT := hide (termsP_take hz)
      have HFZ : Hid (fits z) := hide (HF.out z (List.mem_of_getElem? hz))
      have HFK : Hid (fits ((k : Int) + 1)) := hide (by unfold fits; omega)
      obtain ⟨E, hE, hD⟩ := HR.out.1
      have HE := hide (And.intro hE hD)
      have HEL : Hid (E.length ≤ 1000000) := hide (by rw [hD.1, termsP_len, List.length_take]; omega)
      clear hz hE hD
      go_wp2_with (at_builtin; go_loud (refine wpList_pushE2 (w := wr) (v := .slice pu nu cu) (l := E) (B := w.heap.size) (H := wr.heap.size) rfl (.tmp 13) (.tmp 18) rfl rfl ⟨(k : Int) + 1, z, none, 0, 0⟩ rfl rfl rfl HE.out.1 HR.out.2.size HEL.out ?_); intro v6 w6 ho6 hb6 hg6 he6; obtain ⟨p6, n6, c6, rfl⟩ := ho6.ecs.sl; have HO6 := hide ho6; have HB6 := hide (HR.out.2.trans hb6); have HD6 := hide (HE.out.2.push (e := ⟨(k : Int) + 1, z, none, 0, 0⟩) (x := ⟨(k : Int) + 1, z, []⟩) rfl rfl (Own.nil _ _) (.inl rfl) ⟨HFK.out, HFZ.out⟩ hg6 he6); clear ho6 hb6 hg6 he6)
      go_wp2
      go_roundw
      case rel => exact ⟨k + 1, by omega, by go_num, ⟨_, _, _, rfl⟩, hide ⟨⟨_, HO6.out, by rw [HT.out]; exact HD6.out⟩, HB6.out⟩⟩
      case measure => simp [intOf]; omega
    · have HT : Hid (T.take k = T) := hide (List.take_of_length_le (by rw [← HN.out]; omega))
      go_wp2
      go_ret
      have h := HR.out
      rw [HT.out] at h
      exact ⟨_, rfl, h.1, h.2⟩

/-- One entry, laid as a literal. -/
theorem ens_lit (w : World) (i t : Int) (hi : fits i) (ht : fits t) : Ens (w.alloc (.cells #[.int .i64 i, .int .i64 t, .slice none 0 0] 48)) (.slice (some ⟨w.heap.size, 0, none⟩) 1 1) [⟨i, t, []⟩] := by
  refine ⟨[⟨i, t, none, 0, 0⟩], ?_, rfl, fun k e x h1 h2 => ?_⟩
  · have : OwnE w.heap.size (w.alloc (.cells #[.int .i64 i, .int .i64 t, .slice none 0 0] 48)) (.slice (some ⟨w.heap.size, 0, none⟩) 1 1) [⟨i, t, none, 0, 0⟩] := World.ownsRow_lit w #[.int .i64 i, .int .i64 t, .slice none 0 0] 1 (Nat.le_refl _) (by decide) rfl
    exact this.ecs
  · cases k with
    | zero =>
      simp at h1 h2
      subst h1 h2
      exact ⟨rfl, rfl, By.nil _, hi, ht⟩
    | succ k => simp at h1
set_option maxRecDepth 200000 in
set_option maxHeartbeats 4000000 in
theorem awake_any (w : World) : Calls Try.prog 8 #[] w fun e w' => e = .returned (.bool true) ∧ Below w.heap.size w w' := by
  have b1 : Below w.heap.size w (w.alloc (.cells #[.int .i64 1, .int .i64 1, .int .i64 2] 3)) := (Below.refl _ _).alloc (Nat.le_refl _) _
  have HT := hide (terms_any (w := w.alloc (.cells #[.int .i64 1, .int .i64 1, .int .i64 2] 3)) (g := w.heap.size) (n := 3) (c := 3) (T := [1, 1, 2]) rfl (by omega) (fun i z hz => by
    rw [cell_of_row _ w.heap.size _ _ _ (0, 0) (heap_alloc_new w _)]
    match i with
    | 0 => simp at hz; rw [← hz]; rfl
    | 1 => simp at hz; rw [← hz]; rfl
    | 2 => simp at hz; rw [← hz]; rfl
    | i + 3 => simp at hz) (by
    intro z hz
    simp at hz
    unfold fits
    omega))
  obtain ⟨Y, hY⟩ : ∃ Y, w.alloc (.cells #[.int .i64 1, .int .i64 1, .int .i64 2] 3) = Y := ⟨_, rfl⟩
  rw [hY] at b1 HT
  have HB := hide b1
  clear b1
  have HG : Hid ((good 0 0 && goOn 0 0 (termsP [1, 1, 2])) = true) := hide (by decide)
  obtain ⟨X, hX⟩ : ∃ X : Lg, (⟨0, 0, termsP [1, 1, 2]⟩ : Lg) = X := ⟨_, rfl⟩
  have HM1 : Hid (mergeI X 2 1 [⟨3, 3, []⟩] = (3, [⟨3, 3, []⟩], true)) := hide (by rw [← hX]; rfl)
  have HH1 : Hid (hintI X 2 = 1) := hide (by rw [← hX]; decide)
  have HH2 : Hid (hintI X 9 = 4) := hide (by rw [← hX]; decide)
  have HF1 : Hid (freshI X 3 2 = true) := hide (by rw [← hX]; decide)
  have HF2 : Hid (freshI X 9 1 = false) := hide (by rw [← hX]; decide)
  go_enter Try.func8, Try.ntmps8
  go_wp2_with fail
  refine HT.out.mono ?_
  rintro e w2 ⟨v2, rfl, ho2, hb2⟩
  obtain ⟨p2, n2, c2, rfl⟩ := ho2.ens.sl
  have HB2 := hide (HB.out.trans (hb2.mono HB.out.size))
  have HN := hide (new_any (ix := 0) (tm := 0) ho2.ens (by unfold fits; omega) (by decide))
  clear ho2 hb2
  go_wp2_with fail
  refine HN.out.mono ?_
  unfold NewPost
  rw [HG.out]
  rintro e w3 ⟨hb3, hq3⟩
  rw [if_pos rfl, hX] at hq3
  obtain ⟨g, rfl, hL3⟩ := hq3
  have HL := hide hL3.is
  have HB3 := hide (HB2.out.trans (hb3.mono HB2.out.size))
  clear hb3 hL3
  have b4 : Below w3.heap.size w3 (w3.alloc (.cells #[.int .i64 3, .int .i64 3, .slice none 0 0] 48)) := (Below.refl _ _).alloc (Nat.le_refl _) _
  have HME := hide (merge_any (HL.out.below b4) (i := 2) (t := 1) (ens_lit w3 3 3 (by unfold fits; omega) (by unfold fits; omega)) (by unfold fits; omega) (by decide))
  have HB4 := hide b4
  clear b4
  unfold MrgPost at HME
  rw [HM1.out] at HME
  go_wp2_with fail
  refine HME.out.mono ?_
  rintro e w5 ⟨⟨v5, rfl, ho5⟩, hb5⟩
  have HB5 : Hid (Below w3.heap.size w3 w5) := hide (HB4.out.trans (hb5.mono HB4.out.size))
  obtain ⟨p5, n5, c5, rfl⟩ := ho5.ens.sl
  have hn5 := ho5.ens.len.1
  have HL5 := hide (HL.out.below HB5.out)
  have HB5W := hide (HB3.out.trans (HB5.out.mono HB3.out.size))
  have HI1 := hide (hint_any HL5.out 2 (by unfold fits; omega))
  rw [HH1.out] at HI1
  simp only [List.length_cons, List.length_nil, Nat.zero_add] at hn5
  subst hn5
  clear ho5 hb5
  go_wp2_with fail
  refine HI1.out.mono ?_
  rintro e w6 ⟨rfl, hb6⟩
  have HL6 := hide (HL5.out.below hb6)
  have HB6 := hide (HB5W.out.trans (hb6.mono HB5W.out.size))
  have HI2 := hide (hint_any HL6.out 9 (by unfold fits; omega))
  rw [HH2.out] at HI2
  clear hb6
  go_wp2_with fail
  refine HI2.out.mono ?_
  rintro e w7 ⟨rfl, hb7⟩
  have HL7 := hide (HL6.out.below hb7)
  have HB7 := hide (HB6.out.trans (hb7.mono HB6.out.size))
  have HR1 := hide (fresh_any HL7.out 3 2)
  rw [HF1.out] at HR1
  clear hb7
  go_wp2_with fail
  refine HR1.out.mono ?_
  rintro e w8 ⟨rfl, hb8⟩
  have HL8 := hide (HL7.out.below hb8)
  have HB8 := hide (HB7.out.trans (hb8.mono HB7.out.size))
  have HR2 := hide (fresh_any HL8.out 9 1)
  rw [HF2.out] at HR2
  clear hb8
  go_wp2_with fail
  refine HR2.out.mono ?_
  rintro e w9 ⟨rfl, hb9⟩
  have HB9 := hide (HB8.out.trans (hb9.mono HB8.out.size))
  clear hb9
  go_wp2
  go_ret
  exact ⟨rfl, HB9.out⟩
end Go.Proofs.Ytmalhdiholblgaa
