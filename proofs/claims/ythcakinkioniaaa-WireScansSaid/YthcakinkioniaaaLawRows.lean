/- The walk of the statement on rows of records. -/
import Derived.Test.YthcakinkioniaaaMany
import Derived.Lib.SlBytesConst
import Derived.BigGuard
namespace Go.Proofs.Ythcakinkioniaaa
open Go.RowKit

set_option maxRecDepth 200000 in
set_option maxHeartbeats 1000000 in
/-- slices.EqualFunc by bytes.Equal, of the same lists. -/
theorem equalFunc_same {w : World} {v u : Value} {ls : List (List UInt8)} (hv : Bss w v ls) (hu : Bss w u ls) :
    Calls Try.prog 33 #[v, u, .func (.func 17) #[] #[]] w fun e w' => e = .returned (.bool true) ∧ w = w' := by
  obtain ⟨p, n, c, rfl⟩ := hv.sl
  obtain ⟨q, m, d, rfl⟩ := hu.sl
  obtain ⟨hn, hmax, _⟩ := hv.len
  obtain rfl : m = n := by rw [hn, hu.len.1]
  have hm' : (m : Int) ≤ 9223372036854775807 := by unfold maxLen at hmax; omega
  have HV := hide hv
  have HU := hide hu
  have HN := hide hn
  clear hv hu hn hmax
  go_enter Try.func33, Try.ntmps33
  go_wp2
  go_loop [7, 8, 9, 17] (fun _ _ _ i => ∃ k : Nat, k ≤ m ∧ i = .int .i64 k) (fun _ _ _ i => m - (intOf i).toNat)
  case atStart => exact ⟨0, by omega, rfl⟩
  case round =>
    obtain ⟨k, hk, rfl⟩ := hrel
    by_cases hkm : (k : Int) < (m : Int)
    · obtain ⟨b, o, q1, m1, d1, l1, rfl, h1, c1, y1⟩ := HV.out.cellAt (k := k) (by omega)
      obtain ⟨b2, o2, q2, m2, d2, l2, rfl, h2, c2, y2⟩ := HU.out.cellAt (k := k) (by omega)
      have hll : l2 = l1 := by rw [h1] at h2; injection h2 with h2; exact h2.symm
      subst hll
      have Y1 := hide y1
      have Y2 := hide y2
      clear y1 y2 h1 h2
      go_wp2_with fail
      refine (equal_any Y1.out Y2.out).mono ?_
      rintro e w2 ⟨rfl, rfl⟩
      rw [beq_self_eq_true]
      clear c1 c2
      go_wp2
      go_round
      case rel => exact ⟨k + 1, by omega, by go_num⟩
      case measure => simp [intOf]; omega
    · go_wp2
      go_ret
      exact ⟨rfl, rfl⟩

theorem recP_a : recP [97] = (recL [97], 0) := by unfold recP; rw [if_pos (by decide)]
theorem rec_a_len : (recL [97]).length = 7 := by
  unfold recL
  rw [List.length_append, tailL_length, front_length, digits_small (by decide)]
  rfl

theorem rows_one (p : List UInt8) (hp : p.length ≤ 65536) : rowsL (recL p).length (recL p) = ([p], (recL p).length) := by
  have h := pick_rec p hp []
  rw [List.append_nil] at h
  have hk := (pick_len h).2.2 rfl
  obtain ⟨f, hf⟩ : ∃ f, (recL p).length = f + 1 := ⟨(recL p).length - 1, by omega⟩
  have h2 := rowsL_go (f := f) h
  rw [← hf] at h2
  rw [h2, List.drop_length, rowsL_nil]
  simp

set_option maxRecDepth 200000 in
set_option maxHeartbeats 1000000 in
theorem rows_law (a0 : Option Addr) (len0 cap0 : Nat) (l : List UInt8) (hl : l.length = len0) (w : World) (hv : By w (.slice a0 len0 cap0) l) :
    Calls Try.prog 7 #[.slice a0 len0 cap0] w fun e w' => e = .returned (.bool true) ∧ Below w.heap.size w w' := by
  have HV := hide hv
  by_cases hb : (20000 : Int) < (len0 : Int)
  · clear hv
    go_enter Try.func7, Try.ntmps7
    go_wp2_with fail
    refine (sum_none w).mono ?_
    rintro e w1 ⟨rfl, rfl⟩
    go_wp2
    go_ret
    exact ⟨rfl, Below.refl _ _⟩
  · have hll : l.length ≤ 1000000 := by omega
    obtain ⟨R, Z, hR⟩ : ∃ R Z, rowsL l.length l = (R, Z) := ⟨_, _, rfl⟩
    have HR := hide hR
    have kc := fun (w : World) (C : Array Value) (n c : Nat) => Lib.run_convert_bytes_const (P := Try.prog) w 22 5 C n c Try.underlying22 Try.underlying5
    clear hv hl hR
    go_enter Try.func7, Try.ntmps7
    go_wp2_with fail
    refine (wireRows_any HV.out hll HR.out).mono ?_
    rintro e w1 ⟨v1, rfl, ho1, hb1⟩
    obtain ⟨p1, n1, c1, rfl⟩ := ho1.sl
    have hbs1 := hb1.size
    have H1 := hide ho1
    clear ho1
    go_wp2_with fail
    refine (refRows_any (HV.out.below hb1) hll HR.out).mono ?_
    rintro e w2 ⟨v2, rfl, ho2, hb2⟩
    obtain ⟨p2, n2, c2, rfl⟩ := ho2.sl
    have hb02 := hb1.trans (hb2.mono hbs1)
    have hbs2 := hb02.size
    have H2 := hide ho2
    clear ho2
    have hA := by_block w2 [97] 5 (1, 2) (by decide : (1 : Nat) ≤ 1000)
    have HA := hide hA
    clear hA
    go_wp2_with fail
    refine (wireRecord_post HA.out recP_a).mono ?_
    rintro e w3 ⟨v3, rfl, ho3, hb3⟩
    obtain ⟨p3, n3, c3, rfl⟩ := ho3.by_.sl
    have hb23 : Below w2.heap.size w2 w3 := ((Below.refl _ _).alloc (Nat.le_refl _) _).trans (hb3.mono (by simp))
    have hb03 := hb02.trans (hb23.mono hbs2)
    have hbs3 := hb03.size
    have H3 := hide ho3
    clear ho3 hb3
    go_wp2_with fail
    refine (wireRows_any H3.out.by_ (by rw [rec_a_len]; omega) (rows_one [97] (by decide))).mono ?_
    rintro e w4 ⟨v4, rfl, ho4, hb4⟩
    obtain ⟨p4, n4, c4, rfl⟩ := ho4.sl
    obtain rfl : n4 = 1 := ho4.len.1
    rw [rec_a_len]
    have hb04 := hb03.trans (hb4.mono hbs3)
    have hb24 := hb23.trans (hb4.mono hb23.size)
    have HB04 := hide hb04
    have G1 := hide ((H1.out.below hb2).below hb24)
    have G2 := hide (H2.out.below hb24)
    clear ho4 hb4 hb04 hb24 H1 H2 H3 kc
    go_wp2_with fail
    refine (equalFunc_same G1.out G2.out).mono ?_
    rintro e w5 ⟨rfl, rfl⟩
    go_wp2
    go_ret
    exact ⟨rfl, HB04.out⟩
end Go.Proofs.Ythcakinkioniaaa
