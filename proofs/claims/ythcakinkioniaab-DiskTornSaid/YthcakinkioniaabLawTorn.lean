/- Of a write behind a file's end a crash leaves a beginning. -/
import Derived.Test.YthcakinkioniaabDPlain3
namespace Go.Proofs.Ythcakinkioniaab
open Go.RowKit

set_option maxRecDepth 200000 in
set_option maxHeartbeats 8000000 in
theorem torn_any {w : World} {room : Int} {p : Option Addr} {len cap : Nat} {l : List Rec} (h : Dos w p len cap l) {name : ByteArray} (hn : name.size ≤ maxLen) {pb : Option Addr} {nb cb : Nat} {b : List UInt8} (hb : By w (.slice pb nb cb) b) {tear : Int} (ht : I64 tear) :
    Calls Try.prog 6 #[.int .i64 room, .slice p len cap, .string name, .slice pb nb cb, .int .i64 tear] w fun e w' => e = .returned (.bool true) ∧ Below w.heap.size w w' := by
  have hmade := made_law (room := room) h
  have HM := hide hmade
  have hbl := hb.len.1
  have hbm := hb.lenMax
  have HBL := hide hbl
  have HBY := hide hb
  clear hmade hbl hb
  go_enter Try.func6, Try.ntmps6
  go_wp2_with fail
  refine HM.out.mono ?_
  rintro e w1 ⟨g, rfl, hd⟩
  rcases hs : isShort l with _ | _
  · have HB := hide hd.below
    clear hd
    go_wp2_with fail
    refine (awake_any w1).mono ?_
    rintro e w2 ⟨rfl, hb⟩
    go_wp2
    go_ret
    exact ⟨rfl, HB.out.trans (hb.mono HB.out.size)⟩
  by_cases hlong : (32768 : Int) < (nb : Int)
  · have HB := hide hd.below
    clear hd
    go_wp2_with fail
    refine (awake_any w1).mono ?_
    rintro e w2 ⟨rfl, hb⟩
    go_wp2
    go_ret
    exact ⟨rfl, HB.out.trans (hb.mono HB.out.size)⟩
  · have hcal := made_calm h hs (roomOf room)
    rw [if_pos hs] at hd
    obtain ⟨s, hse⟩ : ∃ s, s = (plays (Dk.new (roomOf room)) l).woken := ⟨_, rfl⟩
    go_wp2_with fail
    refine (start_own hd).mono ?_
    rintro e w2 ⟨rfl, hd2⟩
    rw [show ((0 : Nat) : Int) = 0 from rfl]
    clear hd
    go_wp2_with fail
    refine (arm_own hd2 (n := 0) (keep := 0) (tear := 0) (by omega) (by omega)).mono ?_
    rintro e w3 ⟨rfl, hd3⟩
    replace hd3 : Own1 w g (plays (Dk.new (roomOf room)) l).woken w3 := hd3
    rw [← hse] at hd3
    have hcs : s.CalmN 120 := hse ▸ hcal.woken
    have hdn : s.down = false := by rw [hse]; rfl
    have hfn : s.fn = 0 := by rw [hse]; rfl
    clear hd2
    go_wp2_with fail
    refine (sync_own hd3 (hcs.calm (by omega))).mono ?_
    rintro e w4 ⟨rfl, hd4⟩
    rw [sync_woken hdn hfn] at hd4 ⊢
    obtain ⟨u, hu⟩ : ∃ u, u = s.clean 0 := ⟨_, rfl⟩
    rw [← hu] at hd4
    have hcu : u.CalmN 121 := hu ▸ (⟨hcs.k, hcs.t, Nat.zero_le _⟩ : (s.clean 0).CalmN 121)
    have hdu : u.down = false := by rw [hu]; exact hdn
    have hfu : u.fn = 0 := by rw [hu]; rfl
    have hau : u.acts = [] := by rw [hu]; rfl
    have HPL := hide (And.intro hcu (And.intro hdu (And.intro hfu hau)))
    clear hcs hdn hfn hse hcal h hcu hdu hfu hau hu hd3
    go_wp2_with fail
    have hk4 := hd4.keep
    refine (read_K hk4 hn).mono ?_
    rintro e w5 ⟨v5, rfl, hr5, hc5⟩
    have hk5 := hk4.more hc5
    obtain ⟨K, hK⟩ : ∃ K : Nat → Prop, K = fun i => (fun _ => False) i ∨ (w4.heap.size ≤ i ∧ i < w5.heap.size) := ⟨_, rfl⟩
    rw [← hK] at hk5
    have hKv : ∀ i, v5.ownBlock = some i → K i := fun i hi => by
      rw [hK]
      exact .inr (hr5.lt i hi)
    obtain ⟨q5, c5, rfl⟩ := row_sl hr5
    obtain ⟨L5, hL5⟩ : ∃ L5, L5 = (u.readB name.data.toList).length := ⟨_, rfl⟩
    have HWAS := hide (readB_len hk5.own.ok name.data.toList)
    have HR5 := hide (And.intro hr5 hKv)
    rw [← hL5]
    have hL5i : (L5 : Int) ≤ 16777216 := by have := HWAS.out; omega
    have HL5 := hide hL5
    clear hr5 hc5 hd4 hk4 hK hKv hL5
    go_wp2_with fail
    have hbw : By w5 (.slice pb nb cb) b := HBY.out.below (by have := hk5.own.below; exact this)
    refine (write_K hk5 (HPL.out.1.calm (by omega)) hn (at_ := L5) (by omega) (by omega) hbw (by have := HBL.out; omega)).mono ?_
    rintro e w6 ⟨rfl, hk6, hc6⟩
    have HK6 := hide hk6
    have HC6 := hide hc6
    have HBW := hide hbw
    obtain ⟨W6, hW6⟩ : ∃ W6, W6 = u.write name.data.toList L5 b := ⟨_, rfl⟩
    rw [← hW6] at HK6 ⊢
    clear hk6 hc6 hk5 hbw
    by_cases hcode : W6.1 = 0
    · obtain ⟨hok, hwr, hrb⟩ := write_done HPL.out.2.1 HPL.out.2.2.1 (k := name.data.toList) (b := b) (by rw [← HL5.out, ← hW6]; exact hcode)
      rw [← HL5.out, ← hW6] at hwr
      obtain ⟨t1, t2, t3⟩ := torn_done HPL.out.2.1 HPL.out.2.2.2 (b := b) hok hrb tear
      rw [← HL5.out] at t1 t2 t3
      obtain ⟨y, hy⟩ : ∃ y, y = u.act (.put name.data.toList L5 b) := ⟨_, rfl⟩
      rw [hwr] at HK6 ⊢
      rw [← hy] at t1 t2 t3 HK6
      have HT := hide (And.intro t2 t3)
      clear hcode hok hrb hW6 hwr hy t2 t3
      go_wp2_with fail
      refine (crash_K HK6.out (keep := 1) (by omega) (by omega) ht.2 ht.1).mono ?_
      rintro e w7 ⟨rfl, hk7, hc7⟩
      rw [t1]
      have HK7 := hide hk7
      have HC7 := hide (HC6.out.trans hc7 fun _ h => .inl h)
      clear hk7 hc7 t1
      go_wp2_with fail
      refine (start_K HK7.out).mono ?_
      rintro e w8 ⟨rfl, hk8, hc8⟩
      rw [show ((0 : Nat) : Int) = 0 from rfl]
      obtain ⟨z, hz⟩ : ∃ z, z = (y.crash 1 tear).2.start := ⟨_, rfl⟩
      rw [← hz] at hk8 HT
      have HK8 := hide hk8
      have HC8 := hide (HC7.out.trans hc8 fun _ h => .inl h)
      clear hk8 hc8 hz
      go_wp2_with fail
      refine (read_K HK8.out hn).mono ?_
      rintro e w9 ⟨v9, rfl, hr9, hc9⟩
      rw [HT.out.1]
      obtain ⟨q9, n9, c9, rfl⟩ := (by_row (row_mono hr9)).sl
      have HR9 := hide hr9
      have HC9 := hide (HC8.out.trans hc9 fun _ h => h.elim)
      have HK9 := hide (HK8.out.chg hc9)
      clear hr9 hc9
      obtain ⟨k, hk⟩ : ∃ k, k = nb - (max 0 (min tear (nb : Int))).toNat := ⟨_, rfl⟩
      have hnc : nb ≤ cb := by
        have := HBY.out.len
        omega
      have hkn : k ≤ nb := by omega
      have hke : (nb : Int) - max 0 (min tear (nb : Int)) = ((k : Nat) : Int) := by omega
      have hcut : ∀ V, (Instr.slice 33 (.slice pb nb cb) none (some (.int .i64 ((nb : Int) - max 0 (min tear (nb : Int))))) none).run Try.prog V = .ok (.slice pb k cb) V := fun V => by
        rw [hke]
        exact run_cut_to V pb nb cb k (by omega)
      have hby9 : By w9 (.slice pb nb cb) b := HBY.out.below (by have := HK9.out.own.below; exact this)
      have hwas : By w9 (.slice q5 L5 c5) (u.readB name.data.toList) := by
        have h5 := HR5.out
        rw [← HL5.out] at h5
        exact By.kept h5.1 HC9.out h5.2
      have HCAT := hide (concat_any (two_parts hwas (cut_to hby9 hkn)) (by
        have h1 := HWAS.out
        show (u.readB name.data.toList).length + ((b.take k).length + 0) ≤ 20000000
        rw [List.length_take]
        have := HBL.out
        omega))
      have hwant : z.readB name.data.toList = u.readB name.data.toList ++ b.take k := by
        rw [HT.out.2, hk, HBL.out]
      have HW := hide hwant
      have hHK : Hid (k = nb - (max 0 (min tear (nb : Int))).toNat) := hide hk
      clear hk hke hby9 hwas hwant hnc
      go_wp2_with fail
      refine HCAT.out.mono ?_
      rintro e w10 ⟨v10, rfl, ho10, hb10⟩
      have hb9 : Chg w9 w10 (fun _ => False) := (chg_alloc w9 (.cells #[.slice q5 L5 c5, .slice pb k cb] 33)).trans (Chg.of_below hb10 _) fun _ h => .inl h
      have HB10 := hide (HK9.out.chg hb9).own.below
      obtain ⟨q10, n10, c10, rfl⟩ := ho10.by_.sl
      have HEQ := hide (equal_any ((by_row (row_mono HR9.out)).chg hb9 (.inr fun _ _ h => h)) ho10.by_)
      clear ho10 hb10 hb9
      go_wp2_with fail
      refine HEQ.out.mono ?_
      rintro e w11 ⟨rfl, rfl⟩
      rw [show (z.readB name.data.toList == [u.readB name.data.toList, b.take k].flatten) = true from by rw [HW.out]; simp]
      go_wp2_with fail
      refine (awake_any w10).mono ?_
      rintro e w12 ⟨rfl, hb⟩
      go_wp2
      go_ret
      exact ⟨rfl, HB10.out.trans (hb.mono HB10.out.size)⟩
    · have g1 : (((W6.1 : Nat) : Int) != 0) = true := ine_true (by omega)
      have HB := hide HK6.out.own.below
      clear hcode hW6
      go_wp2_with fail
      refine (awake_any w6).mono ?_
      rintro e w7 ⟨rfl, hb⟩
      go_wp2
      go_ret
      exact ⟨rfl, HB.out.trans (hb.mono HB.out.size)⟩
end Go.Proofs.Ythcakinkioniaab
