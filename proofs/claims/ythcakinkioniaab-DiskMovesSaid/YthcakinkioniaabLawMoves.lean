/- A file that is moved. -/
import Derived.Test.YthcakinkioniaabDKeep
namespace Go.Proofs.Ythcakinkioniaab
open Go.RowKit

theorem str_self (s : ByteArray) : str s.data.toList = s := by rw [str_eq]
theorem toList_iff (s t : ByteArray) : s.toList = t.toList ↔ s.data.toList = t.data.toList := by
  have h := str_beq s.data.toList t.data.toList
  rw [str_self, str_self] at h
  rw [← decide_eq_true_iff (p := s.data.toList = t.data.toList), ← h, beq_iff_eq]

set_option maxRecDepth 200000 in
set_option maxHeartbeats 4000000 in
theorem moves_any {w : World} {room : Int} {p : Option Addr} {len cap : Nat} {l : List Rec} (h : Dos w p len cap l) {old name : ByteArray} (ho : old.size ≤ maxLen) (hn : name.size ≤ maxLen) :
    Calls Try.prog 10 #[.int .i64 room, .slice p len cap, .string old, .string name] w fun e w' => e = .returned (.bool true) ∧ Below w.heap.size w w' := by
  have hmade := made_law (room := room) h
  have HM := hide hmade
  clear hmade
  go_enter Try.func10, Try.ntmps10
  go_wp2_with fail
  refine HM.out.mono ?_
  rintro e w1 ⟨g, rfl, hd⟩
  rcases hs : isShort l with _ | _
  · have HB := hide hd.below
    clear hd
    go_wp2_with fail
    refine (awake_any w1).mono ?_
    rintro e w2 ⟨rfl, hb⟩
    go_wp2
    go_ret
    exact ⟨rfl, HB.out.trans (hb.mono HB.out.size)⟩
  · have hcal := made_calm h hs (roomOf room)
    rw [if_pos hs] at hd
    obtain ⟨s, hse⟩ : ∃ s, s = (plays (Dk.new (roomOf room)) l).woken := ⟨_, rfl⟩
    go_wp2_with fail
    refine (start_own hd).mono ?_
    rintro e w2 ⟨rfl, hd2⟩
    rw [show ((0 : Nat) : Int) = 0 from rfl]
    clear hd
    go_wp2_with fail
    refine (arm_own hd2 (n := 0) (keep := 0) (tear := 0) (by omega) (by omega)).mono ?_
    rintro e w3 ⟨rfl, hd3⟩
    replace hd3 : Own1 w g (plays (Dk.new (roomOf room)) l).woken w3 := hd3
    rw [← hse] at hd3
    have hcs : s.CalmN 120 := hse ▸ hcal.woken
    have hdn : s.down = false := by rw [hse]; rfl
    have hfn : s.fn = 0 := by rw [hse]; rfl
    clear hd2
    go_wp2_with fail
    have HPL := hide (And.intro hcs (And.intro hdn hfn))
    have HH := hide h
    clear hcs hdn hfn hse hcal h
    have hk3 := hd3.keep
    refine (read_K hk3 ho).mono ?_
    rintro e w4 ⟨v4, rfl, hr4, hc4⟩
    have hk4 := hk3.more hc4
    obtain ⟨K, hK⟩ : ∃ K : Nat → Prop, K = fun i => (fun _ => False) i ∨ (w3.heap.size ≤ i ∧ i < w4.heap.size) := ⟨_, rfl⟩
    rw [← hK] at hk4
    have hKv : ∀ i, v4.ownBlock = some i → K i := fun i hi => by
      rw [hK]
      exact .inr (hr4.lt i hi)
    obtain ⟨q4, n4, c4, rfl⟩ := (by_row (row_mono hr4)).sl
    have HR4 := hide (And.intro hr4 hKv)
    clear hr4 hc4 hd3 hk3 hK hKv
    go_wp2_with fail
    refine (list_K hk4).mono ?_
    rintro e w5 ⟨v5, rfl, hr5, hc5⟩
    have hk5 := hk4.chg hc5
    obtain ⟨q5, c5, rfl⟩ := row_sl hr5
    have HN5 := hide (show s.names.length ≤ 4096 from by
      rw [names_len HPL.out.2.1]
      exact seen_few hk5.own.ok)
    obtain ⟨n5, hn5⟩ : ∃ n5, n5 = s.names.length := ⟨_, rfl⟩
    rw [← hn5]
    have HN := hide hn5
    have hn5' : (n5 : Int) ≤ 4096 := by have := HN5.out; omega
    have HC5 := hide hc5
    clear hr5 hk4 hc5 hn5
    go_wp2_with fail
    refine (read_K hk5 hn).mono ?_
    rintro e w6 ⟨v6, rfl, hr6, hc6⟩
    obtain ⟨q6, n6, c6, rfl⟩ := (by_row (row_mono hr6)).sl
    have hk6 := hk5.chg hc6
    have HC6 := hide (HC5.out.trans hc6 (S := fun _ => False) fun _ h => .inl h)
    clear hr6 hc6 hk5
    go_wp2_with fail
    refine (move_K hk6 (HPL.out.1.calm (by omega)) ho hn).mono ?_
    rintro e w7 ⟨rfl, hk7, hc7⟩
    have HK7 := hide hk7
    have HK6 := hide hk6
    have HC7 := hide ((HC6.out.mono (S' := fun i => ¬ K i) fun _ h => h.elim).trans hc7 fun _ h => .inl h)
    clear hk6 hk7 hc7
    by_cases hE : s.readE old.data.toList = 0
    · rw [hE]
      rcases ht : okN name.data.toList with _ | _
      · obtain ⟨e1, e2⟩ := move_named HPL.out.2.1 hE ht
        rw [e1, e2]
        rw [e1] at HK7
        go_wp2_with fail
        refine (list_K HK7.out).mono ?_
        rintro e w8 ⟨v8, rfl, hr8, hc8⟩
        rw [← HN.out] at hr8
        obtain ⟨q8, c8, rfl⟩ := row_sl hr8
        have HB := hide (HK7.out.chg hc8).own.below
        clear hr8 hc8
        go_wp2_with fail
        refine (awake_any w8).mono ?_
        rintro e w9 ⟨rfl, hb⟩
        go_wp2
        go_ret
        exact ⟨rfl, HB.out.trans (hb.mono HB.out.size)⟩
      · obtain ⟨m1, m2, m3, m4, m5⟩ := move_done HK6.out.own.ok HPL.out.2.1 HPL.out.2.2 hE ht
        obtain ⟨s', hs'⟩ : ∃ s', s' = (s.move old.data.toList name.data.toList).2 := ⟨_, rfl⟩
        rw [m1]
        rw [← hs'] at m2 m3 m4 m5 HK7
        have HM := hide (And.intro m3 (And.intro m4 m5))
        have HS7 := hide (show s'.names.length ≤ 4096 from by
          have h1 := seen_few HK7.out.own.ok
          unfold Dk.names
          split
          · simp
          · simpa using h1)
        clear m1 m3 m4 m5 hs'
        go_wp2_with fail
        refine (read_K HK7.out hn).mono ?_
        rintro e w8 ⟨v8, rfl, hr8, hc8⟩
        rw [m2]
        obtain ⟨q8, n8, c8, rfl⟩ := (by_row (row_mono hr8)).sl
        have HR8 := hide hr8
        have HK8 := hide (HK7.out.chg hc8)
        have HC8 := hide hc8
        clear hr8 hc8 m2
        go_wp2_with fail
        refine (read_K HK8.out ho).mono ?_
        rintro e w9 ⟨v9, rfl, hr9, hc9⟩
        obtain ⟨q9, n9, c9, rfl⟩ := (by_row (row_mono hr9)).sl
        have HK9 := hide (HK8.out.chg hc9)
        have HB8 := hide ((by_row (row_mono HR8.out)).chg hc9 (.inr fun _ _ h => h))
        have HB4 := hide (By.kept HR4.out.1 (HC7.out.trans (HC8.out.trans hc9 (S := fun _ => False) fun _ h => .inl h) (S := fun i => ¬ K i) fun _ h => h.elim) HR4.out.2)
        obtain ⟨E9, hE9⟩ : ∃ E9, E9 = s'.readE old.data.toList := ⟨_, rfl⟩
        rw [← hE9]
        have HE9 := hide hE9
        clear hr9 hc9 hE9
        go_wp2_with fail
        refine (equal_any HB8.out HB4.out).mono ?_
        rintro e w10 ⟨rfl, rfl⟩
        rw [show (s'.readB name.data.toList == s.readB old.data.toList) = true from beq_iff_eq.2 HM.out.1]
        have HTL := hide (show old.toList = name.toList ↔ old.data.toList = name.data.toList from toList_iff _ _)
        go_wp2_with fail
        all_goals
          first
          | (exfalso; rename_i z1 z2; have h1 := HM.out.2.1; rw [← HE9.out] at h1; rcases h1 with h1 | h1; exact z1 (HTL.out.2 h1); exact z2 (by rw [h1]; rfl))
          | (refine (list_K HK9.out).mono ?_
             rintro e w10 ⟨v10, rfl, hr10, hc10⟩
             have h5 := HM.out.2.2
             rw [← HN.out] at h5
             have h7 := HS7.out
             obtain ⟨n10, hn10⟩ : ∃ n10, n10 = s'.names.length := ⟨_, rfl⟩
             rw [← hn10] at h5 hr10 h7
             obtain ⟨q10, c10, rfl⟩ := row_sl hr10
             have hn10' : (n10 : Int) ≤ 4096 := by omega
             have HB := hide (HK9.out.chg hc10).own.below
             have HAW := hide (awake_any w10)
             have htl := HTL.out
             first | rename old.toList = name.toList => zo | rename ¬ old.toList = name.toList => zo
             first | rename s.readE name.data.toList = 0 => zt | rename ¬ s.readE name.data.toList = 0 => zt
             by_cases hnn : n10 + 1 = n5
             · have gg : ((n10 : Int) == (n5 : Int) - 1) = true := ieq_true (by omega)
               first
               | (exfalso; have h6 := h5.2 hnn; first | exact h6.2 (htl.1 zo) | exact zt h6.1; done)
               | (clear h5 hnn htl hr10 hc10 hn10 h7
                  first | have gb := beq_iff_eq.2 zo | have gb := beq_eq_false_iff_ne.2 zo
                  go_wp2_with fail
                  refine HAW.out.mono ?_
                  rintro e w11 ⟨rfl, hb⟩
                  go_wp2
                  go_ret
                  exact ⟨rfl, HB.out.trans (hb.mono HB.out.size)⟩)
             · have gg : ((n10 : Int) == (n5 : Int) - 1) = false := ieq_false (by omega)
               first
               | (exfalso; exact hnn (h5.1 ⟨zt, fun h => zo (htl.2 h)⟩); done)
               | (clear h5 hnn htl hr10 hc10 hn10 h7
                  first | have gb := beq_iff_eq.2 zo | have gb := beq_eq_false_iff_ne.2 zo
                  go_wp2_with fail
                  refine HAW.out.mono ?_
                  rintro e w11 ⟨rfl, hb⟩
                  go_wp2
                  go_ret
                  exact ⟨rfl, HB.out.trans (hb.mono HB.out.size)⟩))
    · have e1 := move_refused HPL.out.2.1 (k := old.data.toList) (t := name.data.toList) hE
      rw [e1]
      rw [e1] at HK7
      have g1 : (((s.readE old.data.toList : Nat) : Int) != 0) = true := ine_true (by omega)
      have HB := hide HK7.out.own.below
      go_wp2_with fail
      refine (awake_any w7).mono ?_
      rintro e w9 ⟨rfl, hb⟩
      go_wp2
      go_ret
      exact ⟨rfl, HB.out.trans (hb.mono HB.out.size)⟩
end Go.Proofs.Ythcakinkioniaab
