/- The document's own digits of a number, and a number, a text and a flag put behind bytes, by the document and by the program. -/
import Derived.Test.YtlmoiaeppehiiaaNum
import Derived.Deep.AppendLies
namespace Go.Proofs.Ytlmoiaeppehiiaa
open Go.RowKit

theorem lim_le {N : Nat} (h : N < lim) : (N : Int) ≤ 9223372036854775807 := by unfold lim at h; omega

set_option maxRecDepth 20000 in
set_option maxHeartbeats 400000 in
theorem digits_any : ∀ (N : Nat) (n : Int) (_ : max n 0 = (N : Int)) (_ : N < lim) (w : World),
    Calls Try.prog 76 #[.int .i64 n] w fun e w' => ∃ v', e = .returned v' ∧ w'.ownsRow w.heap.size 5 1 v' (digits N).length ((digits N).map bv) ∧ Below w.heap.size w w' := by
  intro N
  induction N using Nat.strongRecOn with
  | _ N ih =>
    intro n hN hn2 w
    obtain ⟨i0, hi0, hz0, hz1, hz2⟩ := info_parts Try.info5
    by_cases hs : n < 128
    · clear ih
      go_enter Try.func76, Try.ntmps76
      go_wp2
      go_ret
      have hN' : N < 128 := by omega
      refine ⟨_, rfl, ?_, (Below.refl _ _).alloc (Nat.le_refl _) _⟩
      rw [digits_small hN']
      have h := World.ownsRow_lit (e := 5) (size := 1) w #[bv (UInt8.ofNat N)] 1 (Nat.le_refl _) (by decide) rfl
      have e : bv (UInt8.ofNat N) = .int .u8 (N : Int) := by
        unfold bv
        simp
        omega
      simpa [e] using h
    · obtain rfl : n = (N : Int) := by omega
      have hbd := lim_le hn2
      have hd := digits_length (N / 128) (by unfold lim at hn2; omega)
      have hp := digits_pos (N / 128)
      have IH := hide (ih (N / 128) (by omega) ((N : Int) / 128) (by omega) (by unfold lim at *; omega))
      clear ih hN
      go_enter Try.func76, Try.ntmps76
      go_wp2_with fail
      refine (IH.out _).mono ?_
      rintro e w1 ⟨v1, rfl, hown, hb⟩
      obtain ⟨g, cap, rfl, hg, hlt⟩ := hown.form hp
      obtain ⟨m, hm⟩ : ∃ m, (digits (N / 128)).length = m := ⟨_, rfl⟩
      rw [hm] at hown hd hp
      rw [hm]
      have hlast : (digits (N / 128))[m - 1]? = some (UInt8.ofNat (N / 128 % 128)) := by
        rw [← hm]
        unfold digits
        simp
      have hc := hown.cellAt (m - 1) (by omega)
      have e1 : bv (UInt8.ofNat (N / 128 % 128)) = .int .u8 ((N : Int) / 128 % 128) := by
        unfold bv
        simp
        omega
      have e2 : bv (UInt8.ofNat (N / 128 % 128 + 128)) = .int .u8 ((N : Int) / 128 % 128 + 128) := by
        unfold bv
        simp
        omega
      have e3 : bv (UInt8.ofNat (N % 128)) = .int .u8 ((N : Int) % 128) := by
        unfold bv
        simp
        omega
      rw [List.getElem?_map, hlast, Option.map_some, e1] at hc
      have hf := hown.frozenAt (m - 1)
      have hst := hown.stored (m - 1) (.int .u8 ((N : Int) / 128 % 128 + 128))
      have hset : (digits (N / 128)).set (m - 1) (UInt8.ofNat (N / 128 % 128 + 128)) = hi (N / 128) := by
        rw [← hm, hi_pos (by omega)]
        unfold digits
        simp
      have hdig : digits N = hi (N / 128) ++ [UInt8.ofNat (N % 128)] := rfl
      have hlen : (digits N).length = m + 1 := by rw [hdig, ← hset]; simp [hm]
      have hs2 := hst.2
      have hs1 := hst.1
      have hb1 : Below w.heap.size w (w1.setCell ⟨g, m - 1, none⟩ (.int .u8 ((N : Int) / 128 % 128 + 128))) := hb.setCell (p := ⟨g, m - 1, none⟩) hg _
      have hbs := hb1.size
      have HB1 := hide hb1
      have HS1 := hide hs1
      have H2 := hide e2
      have H3 := hide e3
      have HSET := hide hset
      have HDIG := hide hdig
      have HLEN := hide hlen
      clear hlast hm hst hown hs1 hs2 e1 e2 e3 hset hdig hlen hb1
      go_wp2_with (at_builtin; go_must (refine wpList_append_own _ rfl _ _ 24 rfl w.heap.size 5 i0 (.int .u8 0) 1 1 Try.underlying24 hi0 hz0 hz1 hz2 rfl (by decide) _ _ _ rfl (HS1.out.alloc _) ⟨w1.heap.size, 0, none⟩ 1 1 [Value.int IntKind.u8 ((N : Int) % 128)] rfl rfl (cell_new2 _ _ (by simp [World.setCell]) _ _) (one_cell1 _ _) (by simp only [maxLen]; omega) (by omega) (by simp; omega) ?_); intro v2 w2 hown2 hg2 _)
      go_ret
      refine ⟨v2, rfl, ?_, below_row (HB1.out.alloc hbs _) hg2 (by simp; omega) (HS1.out.alloc _)⟩
      rw [HLEN.out, HDIG.out, ← HSET.out, List.map_append, List.map_set, List.map_cons, List.map_nil, H2.out, H3.out]
      exact hown2
end Go.Proofs.Ytlmoiaeppehiiaa
