/- Behind a sync no crash changes any file. -/
import Derived.Test.YthcakinkioniaabDSame
namespace Go.Proofs.Ythcakinkioniaab
open Go.RowKit

theorem settleF_nil (F : Fl) (K T : Nat) : settleF F [] K T = F := by
  unfold settleF
  split
  · rfl
  · simp

set_option maxRecDepth 200000 in
set_option maxHeartbeats 8000000 in
theorem synced_any {w : World} {room : Int} {p : Option Addr} {len cap : Nat} {l : List Rec} (h : Dos w p len cap l) {keep tear : Int} (hk : I64 keep) (ht : I64 tear) :
    Calls Try.prog 4 #[.int .i64 room, .slice p len cap, .int .i64 keep, .int .i64 tear] w fun e w' => e = .returned (.bool true) ∧ Below w.heap.size w w' := by
  have HM := hide (made_law (room := room) h)
  go_enter Try.func4, Try.ntmps4
  go_wp2_with fail
  refine HM.out.mono ?_
  rintro e w1 ⟨g, rfl, hd⟩
  rcases hs : isShort l with _ | _
  · have HB := hide hd.below
    clear hd
    go_wp2_with fail
    refine (awake_any w1).mono ?_
    rintro e w2 ⟨rfl, hb⟩
    go_wp2
    go_ret
    exact ⟨rfl, HB.out.trans (hb.mono HB.out.size)⟩
  · have hcal := made_calm h hs (roomOf room)
    rw [if_pos hs] at hd
    obtain ⟨s, hse⟩ : ∃ s, s = (plays (Dk.new (roomOf room)) l).woken := ⟨_, rfl⟩
    have hnm : s.Named := hse ▸ (plays_named (new_named _) l).woken
    go_wp2_with fail
    refine (start_own hd).mono ?_
    rintro e w2 ⟨rfl, hd2⟩
    rw [show ((0 : Nat) : Int) = 0 from rfl]
    clear hd
    go_wp2_with fail
    refine (arm_own hd2 (n := 0) (keep := 0) (tear := 0) (by omega) (by omega)).mono ?_
    rintro e w3 ⟨rfl, hd3⟩
    replace hd3 : Own1 w g (plays (Dk.new (roomOf room)) l).woken w3 := hd3
    rw [← hse] at hd3
    have hcs : s.CalmN 120 := hse ▸ hcal.woken
    have hdn : s.down = false := by rw [hse]; rfl
    have hfn : s.fn = 0 := by rw [hse]; rfl
    clear hd2
    go_wp2_with fail
    refine (sync_own hd3 (hcs.calm (by omega))).mono ?_
    rintro e w4 ⟨rfl, hd4⟩
    rw [sync_woken hdn hfn] at hd4 ⊢
    rw [show (((0, s.clean 0) : Nat × Dk).1 : Int) = 0 from rfl]
    obtain ⟨u, hu⟩ : ∃ u, u = s.clean 0 := ⟨_, rfl⟩
    replace hd4 : Own1 w g (s.clean 0) w4 := hd4
    rw [← hu] at hd4
    have hnu : u.Named := hu ▸ hnm.clean 0
    have hcu : u.CalmN 121 := hu ▸ (⟨hcs.k, hcs.t, Nat.zero_le _⟩ : (s.clean 0).CalmN 121)
    have hdu : u.down = false := by rw [hu]; exact hdn
    have hau : u.acts = [] := by rw [hu]; rfl
    have HPL := hide (And.intro hcu (And.intro hdu (And.intro hau hnu)))
    clear hcs hdn hfn hse hcal h hcu hdu hau hu hd3 hnm hnu
    go_wp2_with fail
    have hpend := (fun S C (hD : DiskIs w4 S C g u) => pending_call hD)
    obtain ⟨S4, C4, hD4, hS4, hB4⟩ := hd4
    refine (pending_call hD4).mono ?_
    rintro e w5 ⟨rfl, rfl⟩
    rw [HPL.out.2.2.1]
    have hd4 : Own1 w g u w4 := ⟨S4, C4, hD4, hS4, hB4⟩
    clear hpend hD4 hS4 hB4
    rw [show ((([] : List Deed).length : Nat) : Int) = 0 from rfl]
    go_wp2_with fail
    refine (clone_two hd4).mono ?_
    rintro e w6 ⟨g', rfl, h6⟩
    clear hd4
    go_wp2_with fail
    refine (h6.call fun S C hD => crash_call hD hk.2 hk.1 ht.2 ht.1).mono ?_
    rintro e w7 ⟨rfl, h7⟩
    have e1 : u.crash keep tear = (0, u.fall keep tear) := by
      unfold Dk.crash
      rw [if_neg (by rw [HPL.out.2.1]; decide)]
    rw [e1] at h7 ⊢
    rw [show (((0, u.fall keep tear) : Nat × Dk).1 : Int) = 0 from rfl]
    obtain ⟨y, hy⟩ : ∃ y, y = u.fall keep tear := ⟨_, rfl⟩
    replace h7 : Two w w7 g (u.fall keep tear) g' u := h7
    rw [← hy] at h7
    have hyd : y.down = true := by rw [hy]; rfl
    have hyl : y.last = u.last := by
      rw [hy]
      show settleF u.last u.acts _ _ = _
      rw [HPL.out.2.2.1]
      exact settleF_nil _ _ _
    have hya : y.acts = [] := by rw [hy]; rfl
    have hyc : y.Calm := by rw [hy]; exact (Dk.CalmN.fall u keep tear 0).calm (by omega)
    clear e1 h6 hy
    go_wp2_with fail
    refine (list_own h7.one).mono ?_
    rintro e w8 ⟨v8, rfl, hr8, hc8, _⟩
    rw [show y.names = [] from by unfold Dk.names; rw [if_pos hyd]] at hr8
    obtain ⟨q8, c8, rfl⟩ := row_sl hr8
    have h8 := h7.chg hc8
    clear hr8 hc8 h7
    go_wp2_with fail
    refine (h8.call fun S C hD => sync_call hD hyc.k1 hyc.k2 hyc.t1 hyc.t2).mono ?_
    rintro e w9 ⟨rfl, h9⟩
    have e2 : y.sync = (22, y) := by unfold Dk.sync; rw [if_pos hyd]
    rw [e2] at h9 ⊢
    rw [show (((22, y) : Nat × Dk).1 : Int) = 22 from rfl]
    replace h9 : Two w w9 g y g' u := h9
    clear e2 h8
    go_wp2_with fail
    refine (h9.call fun S C hD => start_call hD).mono ?_
    rintro e w10 ⟨rfl, h10⟩
    rw [show ((0 : Nat) : Int) = 0 from rfl]
    have hsame := same_any h10.swap HPL.out.2.2.2 HPL.out.2.1 (by
      show runs u.last u.acts = runs y.last y.acts
      rw [HPL.out.2.2.1, hya, hyl])
    have HSM := hide hsame
    have H10 := hide h10
    clear hsame h9 h10 hyd hyl hya hyc
    go_wp2_with fail
    refine HSM.out.mono ?_
    rintro e w11 ⟨rfl, hc11⟩
    have HB := hide (H10.out.chg hc11).below
    clear hc11
    go_wp2_with fail
    refine (awake_any w11).mono ?_
    rintro e w12 ⟨rfl, hb⟩
    go_wp2
    go_ret
    exact ⟨rfl, HB.out.trans (hb.mono HB.out.size)⟩
end Go.Proofs.Ythcakinkioniaab
