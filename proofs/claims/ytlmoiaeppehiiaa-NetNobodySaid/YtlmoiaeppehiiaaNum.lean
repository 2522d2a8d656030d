/- Numbers, texts and flags as bytes: what the program's functions and the document's own make of them. -/
import Derived.Test.YtlmoiaeppehiiaaBase
import Derived.Test.YtlmoiaeppehiiaaMath
import Derived.WalkLawsBesides
import Derived.WalkSpells
import Derived.Outline
import Derived.Laws.IdiomAt

import Derived.Deep.LoopGhost
namespace Go.Proofs.Ytlmoiaeppehiiaa
open Go.RowKit

theorem Try.info5 : (Try.prog.info? 5).map (fun i => (i.zero, i.size, i.bytes)) = some (some (.int .u8 0), 1, 1) := by kernel_rfl

set_option maxHeartbeats 400000 in
/-- slices.Clone. -/
theorem sclone_any {w : World} {v : Value} {l : List UInt8} (h : By w v l) (hl : l.length ≤ 140737488355328) :
    Calls Try.prog 17 #[v] w fun e w' => ∃ v', e = .returned v' ∧ Own w.heap.size w' v' l ∧ Below w.heap.size w w' := by
  obtain ⟨p, c, rfl, hlc, hm, hn, hc⟩ := h
  have q22 : ∀ (w : World) (a : Option Addr) (n c n' c' : Nat), (binOp .eql 24 (.slice a n c) (.slice none n' c')).run Try.prog w = .ok (.bool a.isNone) w := fun w a n c n' c' => Lib.run_eql_slice_nil w _ _ a n c n' c' Try.underlying24
  rcases p with _ | a
  · obtain rfl : l = [] := List.eq_nil_of_length_eq_zero (by have := hn rfl; omega)
    go_enter Try.func17, Try.ntmps17
    go_wp2
    go_ret
    exact ⟨_, rfl, Own.nil _ _, Below.refl _ _⟩
  · obtain ⟨i0, hi, hz0, hz1, hz2⟩ := info_parts Try.info5
    have A := hide hc
    clear hc
    go_enter Try.func17, Try.ntmps17
    go_wp2_with (at_builtin; refine wpList_append_own _ rfl _ _ 24 rfl w.heap.size 5 i0 (.int .u8 0) 1 1 Try.underlying24 hi hz0 hz1 hz2 rfl (by decide) _ _ _ rfl (World.ownsRow_made w #[] 0 (Nat.le_refl _) (Nat.zero_le _) rfl) a l.length c (l.map bv) rfl ?qc1 ?qc2 ?qc3 ?qc4 ?qc5 ?qc6 ?_)
    case qc1 => simp
    case qc2 =>
      intro j u hj
      rw [List.getElem?_map] at hj
      obtain ⟨x, hx, rfl⟩ := Option.map_eq_some_iff.1 hj
      exact Lib.cell?_alloc_some _ (A.out a rfl j x hx)
    case qc3 => intro u hu; obtain ⟨x, _, rfl⟩ := List.mem_map.1 hu; rfl
    case qc4 => simp only [maxLen]; omega
    case qc5 => omega
    case qc6 => simp
    intro v' w1 hown hgrow hnil
    go_wp2
    go_ret
    refine ⟨v', rfl, Own.of_row (by simpa using hown), ?_⟩
    exact ((Below.refl _ w).alloc (Nat.le_refl _) _).grown hgrow (by simp) (by intro k hk; simp [Value.ownBlock] at hk; omega)

def lim : Nat := 9223372036854775808

theorem cell_new1 (w : World) (u : Value) (t : TypeId) : ∀ j x, ([u] : List Value)[j]? = some x → (w.alloc (.cells #[u] t)).cell? ((⟨w.heap.size, 0, none⟩ : Addr).add j) = some x := cell_one_new _ _ _

theorem cell_new2 (w : World) (n : Nat) (hn : w.heap.size = n) (u : Value) (t : TypeId) : ∀ j x, ([u] : List Value)[j]? = some x → (w.alloc (.cells #[u] t)).cell? ((⟨n, 0, none⟩ : Addr).add j) = some x := by
  subst hn
  exact cell_one_new _ _ _

theorem one_cell1 (k : IntKind) (x : Int) : ∀ u ∈ [Value.int k x], u.oneCell' = true := by intro u hu; simp at hu; subst hu; rfl

theorem below_row {B : Nat} {a w w' : World} {v : Value} {e : TypeId} {n : Nat} {xs : List Value} (h : Below B a w) (hg : w.grownBy w' v.ownBlock) (hB : B ≤ w.heap.size) (hown : w.ownsRow B e 1 v n xs) : Below B a w' :=
  h.grown hg hB fun k hk => (hown.lt k hk).1

set_option maxRecDepth 20000 in
set_option maxHeartbeats 400000 in
theorem groups_any (n : Int) (N : Nat) (hN : max n 0 = (N : Int)) (hn2 : N < lim) (w : World) :
    Calls Try.prog 92 #[.int .i64 n] w fun e w' => ∃ v', e = .returned v' ∧ Own w.heap.size w' v' (digits N) ∧ Below w.heap.size w w' := by
  obtain ⟨i0, hi0, hz0, hz1, hz2⟩ := info_parts Try.info5
  go_enter Try.func92, Try.ntmps92
  go_wp2
  go_loop [3] (fun f => ∃ k : Nat, k ≤ 8 ∧ (0 < k → 1 ≤ N / 2 ^ (7 * k)) ∧ f = .int .i64 k) (fun f => 9 - (intOf f).toNat)
  case atStart => exact ⟨0, by omega, fun h => by omega, rfl⟩
  case round =>
    obtain ⟨k, hk, hpos, rfl⟩ := hrel
    have HP := hide hpos
    clear hpos
    by_cases ht : (128 : Int) ≤ (N : Int) / 2 ^ (7 * k)
    · have ht' : 1 ≤ N / 2 ^ (7 * (k + 1)) := by
        rw [shift_succ]
        have : ((N / 2 ^ (7 * k) : Nat) : Int) = (N : Int) / 2 ^ (7 * k) := by simp
        omega
      have hk8 := count_le N (k + 1) hn2 ht'
      have HT := hide ht'
      clear ht'
      go_wp2
      go_round
      case rel => exact ⟨k + 1, hk8, fun _ => HT.out, by go_num⟩
      case measure => simp [intOf]; omega
    · have ht' : N / 2 ^ (7 * k) < 128 := by
        have : ((N / 2 ^ (7 * k) : Nat) : Int) = (N : Int) / 2 ^ (7 * k) := by simp
        omega
      have HT := hide ht'
      clear ht'
      go_wp2_with (at_make; refine wpList_make_own _ rfl _ _ 24 rfl w.heap.size 5 i0 (.int .u8 0) 1 Try.underlying24 hi0 hz0 hz1 .i64 .i64 9 9 rfl rfl rfl (by omega) (by decide) (Nat.le_refl _) ?_; intro w1 hown1 hg1)
      go_loopw [4, 5, 17] (fun v i j wr => ∃ (q : Nat) (l : List UInt8), q ≤ k ∧ j = .int .i64 q ∧ l = hi (N / 2 ^ (7 * (k + 1 - q))) ∧ l.length ≤ q ∧ wr.ownsRow w.heap.size 5 1 v l.length (l.map bv) ∧ Below w.heap.size w wr) (fun _ _ j _ => k - (intOf j).toNat)
      case atStart =>
        refine ⟨0, [], by omega, rfl, ?_, by simp, hown1, (Below.refl _ _).grown hg1 (Nat.le_refl _) (fun g h => by cases h)⟩
        rw [hi_start N k HT.out]
      case round =>
        obtain ⟨q, l, hq, rfl, hl, hlq, hown, hb⟩ := hrel
        have HL := hide hl
        clear hl hown1 hg1
        have hbs := hb.size
        by_cases hqk : q < k
        · go_wp2_with (at_builtin; refine wpList_append_own _ rfl _ _ 24 rfl w.heap.size 5 i0 (.int .u8 0) 1 1 Try.underlying24 hi0 hz0 hz1 hz2 rfl (by decide) _ _ _ rfl (hown.alloc _) ⟨wr.heap.size, 0, none⟩ 1 1 [Value.int IntKind.u8 (bits BinOp.or IntKind.u8 ((N : Int) / 2 ^ (7 * (k - q)) % 256) 128)] rfl rfl (cell_new1 _ _ _) (one_cell1 _ _) (by simp only [maxLen]; omega) (by omega) (by simp; omega) ?_; intro v2 w2 hown2 hg2 _)
          have hb2 := below_row (hb.alloc hbs _) hg2 (by simp; omega) (hown.alloc _)
          have e : bits BinOp.or IntKind.u8 ((N : Int) / 2 ^ (7 * (k - q)) % 256) 128 = ((UInt8.ofNat (N / 2 ^ (7 * (k - q)) % 128 + 128)).toNat : Int) := by
            rw [← or_byte]; simp
          rw [e] at hown2
          have R : w2.ownsRow w.heap.size 5 1 v2 (l ++ [UInt8.ofNat (N / 2 ^ (7 * (k - q)) % 128 + 128)]).length ((l ++ [UInt8.ofNat (N / 2 ^ (7 * (k - q)) % 128 + 128)]).map bv) := by
            simpa [bv] using hown2
          have HR := hide R
          clear hown2 R hown hg2 e
          go_wp2
          go_roundw
          case rel =>
            refine ⟨q + 1, _, by omega, by go_num, ?_, ?_, HR.out, hb2⟩
            · rw [HL.out]; exact hi_step N k q hqk (HP.out (by omega))
            · simp; omega
          case measure => simp [intOf]; omega
        · obtain rfl : q = k := by omega
          go_wp2_with (at_builtin; refine wpList_append_own _ rfl _ _ 24 rfl w.heap.size 5 i0 (.int .u8 0) 1 1 Try.underlying24 hi0 hz0 hz1 hz2 rfl (by decide) _ _ _ rfl (hown.alloc _) ⟨wr.heap.size, 0, none⟩ 1 1 [Value.int IntKind.u8 (bits BinOp.and IntKind.u8 ((N : Int) % 256) 127)] rfl rfl (cell_new1 _ _ _) (one_cell1 _ _) (by simp only [maxLen]; omega) (by omega) (by simp; omega) ?_; intro v2 w2 hown2 hg2 _)
          have hb2 := below_row (hb.alloc hbs _) hg2 (by simp; omega) (hown.alloc _)
          rw [and_byte N] at hown2
          have R : w2.ownsRow w.heap.size 5 1 v2 (l ++ [UInt8.ofNat (N % 128)]).length ((l ++ [UInt8.ofNat (N % 128)]).map bv) := by
            simpa [bv] using hown2
          have O := Own.of_row R
          rw [HL.out, hi_end] at O
          have HO := hide O
          clear hown2 R hown hg2 O
          go_wp2
          go_ret
          exact ⟨v2, rfl, HO.out, hb2⟩
end Go.Proofs.Ytlmoiaeppehiiaa
