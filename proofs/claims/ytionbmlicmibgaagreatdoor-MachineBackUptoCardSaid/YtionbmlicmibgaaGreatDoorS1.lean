import Derived.Laws.BitsAllLaws
import Derived.WalkLawsBesides
import Derived.WalkSpells
import Derived.Outline
import Derived.Laws.IdiomAt
import Derived.Deep.LoopGhost
import Derived.Deep.AppendLies
import Derived.Deep.MidRow
import Derived.Lib.AppendStr
import Derived.Lib.AppendZeros
import Derived.Deep.QuietTactic
import Derived.BigQuiet
import Derived.LoopTactic
import Derived.Lib.Bytealg
import Derived.Deep.RegionHeld3
import Derived.Deep.DrawnRows
import Derived.Laws.StructEq
import Derived.Maps.AppendAt
import Derived.BigGuard
import Derived.Test.YtionbmlicmibgaaGreatDoorBase
namespace Go.Proofs.YtionbmlicmibgaaGreatDoor
def hi (m : Nat) : List UInt8 := if _h : m = 0 then [] else hi (m / 128) ++ [UInt8.ofNat (m % 128 + 128)]
termination_by m
decreasing_by omega
def digits (n : Nat) : List UInt8 := hi (n / 128) ++ [UInt8.ofNat (n % 128)]
theorem hi_zero : hi 0 = [] := by rw [hi]; simp
theorem hi_pos {m : Nat} (h : m ≠ 0) : hi m = hi (m / 128) ++ [UInt8.ofNat (m % 128 + 128)] := by rw [hi]; simp [h]
theorem hi_length (m f : Nat) (h : m < 128 ^ f) : (hi m).length ≤ f := by
 induction f generalizing m with
 | zero => simp at h; subst h; rw [hi_zero]; simp
 | succ f ih =>
  by_cases h0 : m = 0
  ·subst h0; rw [hi_zero]; simp
  ·rw [hi_pos h0]
   have := ih (m / 128) (by rw [Nat.pow_succ] at h; omega)
   simp
   omega
theorem digits_length (n : Nat) (h : n < 9223372036854775808) : (digits n).length ≤ 9 := by
 unfold digits
 have := hi_length (n / 128) 8 (by omega)
 simp
 omega
theorem digits_pos (n : Nat) : 0 < (digits n).length := by simp [digits]
theorem digits_small {n : Nat} (h : n < 128) : digits n = [UInt8.ofNat n] := by
 unfold digits
 rw [Nat.div_eq_of_lt h, hi_zero, Nat.mod_eq_of_lt h]
 rfl
theorem shift_succ (N k : Nat) : N / 2 ^ (7 * (k + 1)) = N / 2 ^ (7 * k) / 128 := by
 rw [Nat.mul_add, Nat.pow_add, Nat.div_div_eq_div_mul]
theorem shift_anti (N : Nat) {j k : Nat} (h : j ≤ k) : N / 2 ^ (7 * k) ≤ N / 2 ^ (7 * j) :=
 Nat.div_le_div_left (Nat.pow_le_pow_right (by decide) (by omega)) (Nat.two_pow_pos _)
theorem hi_step (N k q : Nat) (hq : q < k) (hk : 1 ≤ N / 2 ^ (7 * k)) :
  hi (N / 2 ^ (7 * (k + 1 - q))) ++ [UInt8.ofNat (N / 2 ^ (7 * (k - q)) % 128 + 128)] = hi (N / 2 ^ (7 * (k + 1 - (q + 1)))) := by
 have e : k + 1 - q = (k - q) + 1 := by omega
 have e2 : k + 1 - (q + 1) = k - q := by omega
 rw [e, e2, shift_succ, ← hi_pos]
 have := shift_anti N (show k - q ≤ k by omega)
 omega
theorem hi_start (N k : Nat) (h : N / 2 ^ (7 * k) < 128) : hi (N / 2 ^ (7 * (k + 1 - 0))) = [] := by
 rw [Nat.sub_zero, shift_succ, Nat.div_eq_of_lt h, hi_zero]
theorem hi_end (N k : Nat) : hi (N / 2 ^ (7 * (k + 1 - k))) = hi (N / 128) := by
 rw [show k + 1 - k = 1 by omega]
theorem count_le (N k : Nat) (hN : N < 9223372036854775808) (h : 1 ≤ N / 2 ^ (7 * k)) : k ≤ 8 := by
 by_cases hk : k ≤ 8
 ·exact hk
 ·have := shift_anti N (show 9 ≤ k by omega)
  have h9 : N / 2 ^ (7 * 9) = 0 := Nat.div_eq_of_lt (by simpa using hN)
  omega
theorem or_all : ∀ y : Fin 256, bits BinOp.or IntKind.u8 ((y.val : Nat) : Int) 128 = ((y.val % 128 + 128 : Nat) : Int) := by decide +kernel
theorem and_all : ∀ y : Fin 256, bits BinOp.and IntKind.u8 ((y.val : Nat) : Int) 127 = ((y.val % 128 : Nat) : Int) := by decide +kernel
theorem or_byte (X : Nat) : bits BinOp.or IntKind.u8 ((X : Int) % 256) 128 = ((UInt8.ofNat (X % 128 + 128)).toNat : Int) := by
 have h := or_all ⟨X % 256, Nat.mod_lt _ (by decide)⟩
 have e : ((X : Int) % 256) = ((X % 256 : Nat) : Int) := by simp
 rw [e, h]
 simp
 omega
theorem and_byte (X : Nat) : bits BinOp.and IntKind.u8 ((X : Int) % 256) 127 = ((UInt8.ofNat (X % 128)).toNat : Int) := by
 have h := and_all ⟨X % 256, Nat.mod_lt _ (by decide)⟩
 have e : ((X : Int) % 256) = ((X % 256 : Nat) : Int) := by simp
 rw [e, h]
 simp
 omega
end Go.Proofs.YtionbmlicmibgaaGreatDoor
namespace Go.Proofs.YtionbmlicmibgaaGreatDoor
open Go.RowKit
theorem Tryz.info5 : (Tryz.prog.info? 5).map (fun i => (i.zero, i.size, i.bytes)) = some (some (.int .u8 0), 1, 1) := by kernel_rfl
set_option maxHeartbeats 400000 in
theorem sclone_any {w : World} {v : Value} {l : List UInt8} (h : By w v l) (hl : l.length ≤ 140737488355328) :
  Calls Tryz.prog 24 #[v] w fun e w' => ∃ v', e = .returned v' ∧ Own w.heap.size w' v' l ∧ Below w.heap.size w w' := by
 obtain ⟨p, c, rfl, hlc, hm, hn, hc⟩ := h
 have q22 : ∀ (w : World) (a : Option Addr) (n c n' c' : Nat), (binOp .eql 32 (.slice a n c) (.slice none n' c')).run Tryz.prog w = .ok (.bool a.isNone) w := fun w a n c n' c' => Lib.run_eql_slice_nil w _ _ a n c n' c' Tryz.underlying32
 rcases p with _ | a
 ·obtain rfl : l = [] := List.eq_nil_of_length_eq_zero (by have := hn rfl; omega)
  go_enter Tryz.func24, Tryz.ntmps24
  go_wp2
  go_ret
  exact ⟨_, rfl, Own.nil _ _, Below.refl _ _⟩
 ·obtain ⟨i0, hi, hz0, hz1, hz2⟩ := info_parts Tryz.info5
  have A := hide hc
  clear hc
  go_enter Tryz.func24, Tryz.ntmps24
  go_wp2_with (at_builtin; refine wpList_append_own _ rfl _ _ 32 rfl w.heap.size 5 i0 (.int .u8 0) 1 1 Tryz.underlying32 hi hz0 hz1 hz2 rfl (by decide) _ _ _ rfl (World.ownsRow_made w #[] 0 (Nat.le_refl _) (Nat.zero_le _) rfl) a l.length c (l.map bv) rfl ?qc1 ?qc2 ?qc3 ?qc4 ?qc5 ?qc6 ?_)
  case qc1 => simp
  case qc2 =>
   intro j u hj
   rw [List.getElem?_map] at hj
   obtain ⟨x, hx, rfl⟩ := Option.map_eq_some_iff.1 hj
   exact Lib.cell?_alloc_some _ (A.out a rfl j x hx)
  case qc3 => intro u hu; obtain ⟨x, _, rfl⟩ := List.mem_map.1 hu; rfl
  case qc4 => simp only [maxLen]; omega
  case qc5 => omega
  case qc6 => simp
  intro v' w1 hown hgrow hnil
  go_wp2
  go_ret
  refine ⟨v', rfl, Own.of_row (by simpa using hown), ?_⟩
  exact ((Below.refl _ w).alloc (Nat.le_refl _) _).grown hgrow (by simp) (by intro k hk; simp [Value.ownBlock] at hk; omega)
def lim : Nat := 9223372036854775808
theorem cell_new1 (w : World) (u : Value) (t : TypeId) : ∀ j x, ([u] : List Value)[j]? = some x → (w.alloc (.cells #[u] t)).cell? ((⟨w.heap.size, 0, none⟩ : Addr).add j) = some x := cell_one_new _ _ _
theorem cell_new2 (w : World) (n : Nat) (hn : w.heap.size = n) (u : Value) (t : TypeId) : ∀ j x, ([u] : List Value)[j]? = some x → (w.alloc (.cells #[u] t)).cell? ((⟨n, 0, none⟩ : Addr).add j) = some x := by
 subst hn
 exact cell_one_new _ _ _
theorem one_cell1 (k : IntKind) (x : Int) : ∀ u ∈ [Value.int k x], u.oneCell' = true := by intro u hu; simp at hu; subst hu; rfl
theorem below_row {B : Nat} {a w w' : World} {v : Value} {e : TypeId} {n : Nat} {xs : List Value} (h : Below B a w) (hg : w.grownBy w' v.ownBlock) (hB : B ≤ w.heap.size) (hown : w.ownsRow B e 1 v n xs) : Below B a w' :=
 h.grown hg hB fun k hk => (hown.lt k hk).1
set_option maxRecDepth 20000 in
set_option maxHeartbeats 400000 in
theorem groups_any (n : Int) (N : Nat) (hN : max n 0 = (N : Int)) (hn2 : N < lim) (w : World) :
  Calls Tryz.prog 99 #[.int .i64 n] w fun e w' => ∃ v', e = .returned v' ∧ Own w.heap.size w' v' (digits N) ∧ Below w.heap.size w w' := by
 obtain ⟨i0, hi0, hz0, hz1, hz2⟩ := info_parts Tryz.info5
 go_enter Tryz.func99, Tryz.ntmps99
 go_wp2
 go_loop [3] (fun f => ∃ k : Nat, k ≤ 8 ∧ (0 < k → 1 ≤ N / 2 ^ (7 * k)) ∧ f = .int .i64 k) (fun f => 9 - (intOf f).toNat)
 case atStart => exact ⟨0, by omega, fun h => by omega, rfl⟩
 case round =>
  obtain ⟨k, hk, hpos, rfl⟩ := hrel
  have HP := hide hpos
  clear hpos
  by_cases ht : (128 : Int) ≤ (N : Int) / 2 ^ (7 * k)
  ·have ht' : 1 ≤ N / 2 ^ (7 * (k + 1)) := by
    rw [shift_succ]
    have : ((N / 2 ^ (7 * k) : Nat) : Int) = (N : Int) / 2 ^ (7 * k) := by simp
    omega
   have hk8 := count_le N (k + 1) hn2 ht'
   have HT := hide ht'
   clear ht'
   go_wp2
   go_round
   case rel => exact ⟨k + 1, hk8, fun _ => HT.out, by go_num⟩
   case measure => simp [intOf]; omega
  ·have ht' : N / 2 ^ (7 * k) < 128 := by
    have : ((N / 2 ^ (7 * k) : Nat) : Int) = (N : Int) / 2 ^ (7 * k) := by simp
    omega
   have HT := hide ht'
   clear ht'
   go_wp2_with (at_make; refine wpList_make_own _ rfl _ _ 32 rfl w.heap.size 5 i0 (.int .u8 0) 1 Tryz.underlying32 hi0 hz0 hz1 .i64 .i64 9 9 rfl rfl rfl (by omega) (by decide) (Nat.le_refl _) ?_; intro w1 hown1 hg1)
   go_loopw [4, 5, 17] (fun v i j wr => ∃ (q : Nat) (l : List UInt8), q ≤ k ∧ j = .int .i64 q ∧ l = hi (N / 2 ^ (7 * (k + 1 - q))) ∧ l.length ≤ q ∧ wr.ownsRow w.heap.size 5 1 v l.length (l.map bv) ∧ Below w.heap.size w wr) (fun _ _ j _ => k - (intOf j).toNat)
   case atStart =>
    refine ⟨0, [], by omega, rfl, ?_, by simp, hown1, (Below.refl _ _).grown hg1 (Nat.le_refl _) (fun g h => by cases h)⟩
    rw [hi_start N k HT.out]
   case round =>
    obtain ⟨q, l, hq, rfl, hl, hlq, hown, hb⟩ := hrel
    have HL := hide hl
    clear hl hown1 hg1
    have hbs := hb.size
    by_cases hqk : q < k
    ·go_wp2_with (at_builtin; refine wpList_append_own _ rfl _ _ 32 rfl w.heap.size 5 i0 (.int .u8 0) 1 1 Tryz.underlying32 hi0 hz0 hz1 hz2 rfl (by decide) _ _ _ rfl (hown.alloc _) ⟨wr.heap.size, 0, none⟩ 1 1 [Value.int IntKind.u8 (bits BinOp.or IntKind.u8 ((N : Int) / 2 ^ (7 * (k - q)) % 256) 128)] rfl rfl (cell_new1 _ _ _) (one_cell1 _ _) (by simp only [maxLen]; omega) (by omega) (by simp; omega) ?_; intro v2 w2 hown2 hg2 _)
     have hb2 := below_row (hb.alloc hbs _) hg2 (by simp; omega) (hown.alloc _)
     have e : bits BinOp.or IntKind.u8 ((N : Int) / 2 ^ (7 * (k - q)) % 256) 128 = ((UInt8.ofNat (N / 2 ^ (7 * (k - q)) % 128 + 128)).toNat : Int) := by
      rw [← or_byte]; simp
     rw [e] at hown2
     have R : w2.ownsRow w.heap.size 5 1 v2 (l ++ [UInt8.ofNat (N / 2 ^ (7 * (k - q)) % 128 + 128)]).length ((l ++ [UInt8.ofNat (N / 2 ^ (7 * (k - q)) % 128 + 128)]).map bv) := by
      simpa [bv] using hown2
     have HR := hide R
     clear hown2 R hown hg2 e
     go_wp2
     go_roundw
     case rel =>
      refine ⟨q + 1, _, by omega, by go_num, ?_, ?_, HR.out, hb2⟩
      ·rw [HL.out]; exact hi_step N k q hqk (HP.out (by omega))
      ·simp; omega
     case measure => simp [intOf]; omega
    ·obtain rfl : q = k := by omega
     go_wp2_with (at_builtin; refine wpList_append_own _ rfl _ _ 32 rfl w.heap.size 5 i0 (.int .u8 0) 1 1 Tryz.underlying32 hi0 hz0 hz1 hz2 rfl (by decide) _ _ _ rfl (hown.alloc _) ⟨wr.heap.size, 0, none⟩ 1 1 [Value.int IntKind.u8 (bits BinOp.and IntKind.u8 ((N : Int) % 256) 127)] rfl rfl (cell_new1 _ _ _) (one_cell1 _ _) (by simp only [maxLen]; omega) (by omega) (by simp; omega) ?_; intro v2 w2 hown2 hg2 _)
     have hb2 := below_row (hb.alloc hbs _) hg2 (by simp; omega) (hown.alloc _)
     rw [and_byte N] at hown2
     have R : w2.ownsRow w.heap.size 5 1 v2 (l ++ [UInt8.ofNat (N % 128)]).length ((l ++ [UInt8.ofNat (N % 128)]).map bv) := by
      simpa [bv] using hown2
     have O := Own.of_row R
     rw [HL.out, hi_end] at O
     have HO := hide O
     clear hown2 R hown hg2 O
     go_wp2
     go_ret
     exact ⟨v2, rfl, HO.out, hb2⟩
end Go.Proofs.YtionbmlicmibgaaGreatDoor
namespace Go.Proofs.YtionbmlicmibgaaGreatDoor
open Go.RowKit
theorem lim_le {N : Nat} (h : N < lim) : (N : Int) ≤ 9223372036854775807 := by unfold lim at h; omega
set_option maxRecDepth 20000 in
set_option maxHeartbeats 400000 in
theorem digits_any : ∀ (N : Nat) (n : Int) (_ : max n 0 = (N : Int)) (_ : N < lim) (w : World),
  Calls Tryz.prog 102 #[.int .i64 n] w fun e w' => ∃ v', e = .returned v' ∧ w'.ownsRow w.heap.size 5 1 v' (digits N).length ((digits N).map bv) ∧ Below w.heap.size w w' := by
 intro N
 induction N using Nat.strongRecOn with
 | _ N ih =>
  intro n hN hn2 w
  obtain ⟨i0, hi0, hz0, hz1, hz2⟩ := info_parts Tryz.info5
  by_cases hs : n < 128
  ·clear ih
   go_enter Tryz.func102, Tryz.ntmps102
   go_wp2
   go_ret
   have hN' : N < 128 := by omega
   refine ⟨_, rfl, ?_, (Below.refl _ _).alloc (Nat.le_refl _) _⟩
   rw [digits_small hN']
   have h := World.ownsRow_lit (e := 5) (size := 1) w #[bv (UInt8.ofNat N)] 1 (Nat.le_refl _) (by decide) rfl
   have e : bv (UInt8.ofNat N) = .int .u8 (N : Int) := by
    unfold bv
    simp
    omega
   simpa [e] using h
  ·obtain rfl : n = (N : Int) := by omega
   have hbd := lim_le hn2
   have hd := digits_length (N / 128) (by unfold lim at hn2; omega)
   have hp := digits_pos (N / 128)
   have IH := hide (ih (N / 128) (by omega) ((N : Int) / 128) (by omega) (by unfold lim at *; omega))
   clear ih hN
   go_enter Tryz.func102, Tryz.ntmps102
   go_wp2_with fail
   refine (IH.out _).mono ?_
   rintro e w1 ⟨v1, rfl, hown, hb⟩
   obtain ⟨g, cap, rfl, hg, hlt⟩ := hown.form hp
   obtain ⟨m, hm⟩ : ∃ m, (digits (N / 128)).length = m := ⟨_, rfl⟩
   rw [hm] at hown hd hp
   rw [hm]
   have hlast : (digits (N / 128))[m - 1]? = some (UInt8.ofNat (N / 128 % 128)) := by
    rw [← hm]
    unfold digits
    simp
   have hc := hown.cellAt (m - 1) (by omega)
   have e1 : bv (UInt8.ofNat (N / 128 % 128)) = .int .u8 ((N : Int) / 128 % 128) := by
    unfold bv
    simp
    omega
   have e2 : bv (UInt8.ofNat (N / 128 % 128 + 128)) = .int .u8 ((N : Int) / 128 % 128 + 128) := by
    unfold bv
    simp
    omega
   have e3 : bv (UInt8.ofNat (N % 128)) = .int .u8 ((N : Int) % 128) := by
    unfold bv
    simp
    omega
   rw [List.getElem?_map, hlast, Option.map_some, e1] at hc
   have hf := hown.frozenAt (m - 1)
   have hst := hown.stored (m - 1) (.int .u8 ((N : Int) / 128 % 128 + 128))
   have hset : (digits (N / 128)).set (m - 1) (UInt8.ofNat (N / 128 % 128 + 128)) = hi (N / 128) := by
    rw [← hm, hi_pos (by omega)]
    unfold digits
    simp
   have hdig : digits N = hi (N / 128) ++ [UInt8.ofNat (N % 128)] := rfl
   have hlen : (digits N).length = m + 1 := by rw [hdig, ← hset]; simp [hm]
   have hs2 := hst.2
   have hs1 := hst.1
   have hb1 : Below w.heap.size w (w1.setCell ⟨g, m - 1, none⟩ (.int .u8 ((N : Int) / 128 % 128 + 128))) := hb.setCell (p := ⟨g, m - 1, none⟩) hg _
   have hbs := hb1.size
   have HB1 := hide hb1
   have HS1 := hide hs1
   have H2 := hide e2
   have H3 := hide e3
   have HSET := hide hset
   have HDIG := hide hdig
   have HLEN := hide hlen
   clear hlast hm hst hown hs1 hs2 e1 e2 e3 hset hdig hlen hb1
   go_wp2_with (at_builtin; go_must (refine wpList_append_own _ rfl _ _ 32 rfl w.heap.size 5 i0 (.int .u8 0) 1 1 Tryz.underlying32 hi0 hz0 hz1 hz2 rfl (by decide) _ _ _ rfl (HS1.out.alloc _) ⟨w1.heap.size, 0, none⟩ 1 1 [Value.int IntKind.u8 ((N : Int) % 128)] rfl rfl (cell_new2 _ _ (by simp [World.setCell]) _ _) (one_cell1 _ _) (by simp only [maxLen]; omega) (by omega) (by simp; omega) ?_); intro v2 w2 hown2 hg2 _)
   go_ret
   refine ⟨v2, rfl, ?_, below_row (HB1.out.alloc hbs _) hg2 (by simp; omega) (HS1.out.alloc _)⟩
   rw [HLEN.out, HDIG.out, ← HSET.out, List.map_append, List.map_set, List.map_cons, List.map_nil, H2.out, H3.out]
   exact hown2
end Go.Proofs.YtionbmlicmibgaaGreatDoor
namespace Go.Proofs.YtionbmlicmibgaaGreatDoor
open Go.RowKit
theorem below_setCells' {B b : Nat} {a : World} (hb : B ≤ b) : ∀ (vs : List Value) (o : Nat) {w : World}, Below B a w → Below B a (w.setCells b o vs)
 | [], _, _, h => h
 | _ :: vs, o, _, h => below_setCells' hb vs (o + 1) (h.setCell (p := ⟨b, o, none⟩) hb _)
theorem grown_setCells (b : Nat) : ∀ (vs : List Value) (o : Nat) (w : World), w.grownBy (w.setCells b o vs) (some b)
 | [], _, w => World.grownBy.refl w _
 | v :: vs, o, w => by
  have h1 : w.grownBy (w.setCell ⟨b, o, none⟩ v) (some b) := ⟨rfl, rfl, rfl, by simp [World.setCell], fun k _ hk => heap_setCell_other w ⟨b, o, none⟩ k v (fun e => hk (by simp [e]))⟩
  have h2 := grown_setCells b vs (o + 1) (w.setCell ⟨b, o, none⟩ v)
  exact ⟨h2.os.trans h1.os, h2.tape.trans h1.tape, h2.output.trans h1.output, Nat.le_trans h1.size h2.size, fun k hk hne => (h2.block k (Nat.lt_of_lt_of_le hk h1.size) hne).trans (h1.block k hk hne)⟩
theorem oneCell_bytes (l : List UInt8) : ∀ u ∈ l.map bv, u.oneCell' = true := by
 intro u hu
 obtain ⟨x, _, rfl⟩ := List.mem_map.1 hu
 rfl
theorem run_append_empty {w : World} {v : Value} {l : List UInt8} {B : Nat} (hv : Own B w v l) (p : Option Addr) (c : Nat) : (Builtin.append_ #[32, 32] 32 #[v, .slice p 0 c]).run Tryz.prog w = .ok v w := by
 obtain ⟨i0, hi0, hz0, hz1, hz2⟩ := info_parts Tryz.info5
 rcases hv with ⟨rfl, rfl⟩ | ⟨g, cap, rfl, _, hl, _⟩
 ·cases p <;> simp [Builtin.append_, run_underlying Tryz.underlying32, Go.sizeOf, typeInfo, hi0, Builtin.lenOf, Builtin.firstCells, loadCells, loadCellsFrom]
 ·cases p <;> simp [Builtin.append_, run_underlying Tryz.underlying32, Go.sizeOf, typeInfo, hi0, Builtin.lenOf, Builtin.firstCells, hl, storeCells, loadCells, loadCellsFrom]
theorem run_append_by {w : World} {B : Nat} {v x : Value} {l m : List UInt8} (hv : Own B w v l) (hx : By w x m) (hs : l.length + m.length ≤ 140737488355328) (hB : B ≤ w.heap.size) :
  ∃ v' w', (Builtin.append_ #[32, 32] 32 #[v, x]).run Tryz.prog w = .ok v' w' ∧ Own B w' v' (l ++ m) ∧ w.grownBy w' v.ownBlock ∧ Below B w w' ∧ (∀ k, v'.ownBlock = some k → v.ownBlock = some k ∨ w.heap.size ≤ k) := by
 obtain ⟨i0, hi0, hz0, hz1, hz2⟩ := info_parts Tryz.info5
 obtain ⟨p, c, rfl, hlc, hm, hn, hc⟩ := hx
 have hbv : Below B w w := Below.refl _ _
 by_cases h0 : m = []
 ·subst h0
  exact ⟨v, w, run_append_empty hv p c, by simpa using hv, World.grownBy.refl w _, Below.refl _ _, fun k hk => .inl hk⟩
 ·have hpos : 0 < m.length := List.length_pos_iff.2 h0
  rcases p with _ | ad
  ·have := hn rfl
   omega
  ·have hnews : ∀ j u, (m.map bv)[j]? = some u → w.cell? (ad.add j) = some u := fun j u hj => by
    rw [List.getElem?_map] at hj
    obtain ⟨x, hx, rfl⟩ := Option.map_eq_some_iff.1 hj
    exact hc ad rfl j x hx
   have hnl : (m.map bv).length = m.length * 1 := by simp
   rcases hv with ⟨rfl, rfl⟩ | ⟨g, cap, rfl, hBg, hl, hcm, hcell, hsome, hfr⟩
   ·obtain ⟨v', w', hrun, ho, hg, _, hat⟩ := run_append_own_at (P := Tryz.prog) w B 32 32 5 i0 (.int .u8 0) 1 1 Tryz.underlying32 hi0 hz0 hz1 hz2 rfl (by decide) (.slice none 0 0) 0 [] (World.ownsRow_nil _ _ _ _) ad m.length c (m.map bv) hnl hnews (oneCell_bytes m) (by simp only [maxLen]; omega) (by omega) hB
    refine ⟨v', w', hrun, Own.of_row (by simpa using ho), hg, hbv.grown hg hB (fun k hk => by simp [Value.ownBlock] at hk), fun k hk => by
     rcases hat with e | e
     ·exact .inl (e ▸ hk)
     ·rw [e] at hk
      injection hk with hk
      exact .inr (by omega)⟩
   ·by_cases hroom : l.length + m.length ≤ cap
    ·have hr := run_append_room_cells (P := Tryz.prog) w 32 32 5 i0 Tryz.underlying32 hi0 g 0 l.length cap ad m.length c (m.map bv) (by rw [hz1]; exact hnl) hnews (oneCell_bytes m) hroom
      (fun j hj => by rw [hz1]; simp only [Nat.zero_add, Nat.mul_one]; exact hsome _ (by simp at hj; omega)) (fun j hj => by rw [hz1]; simp only [Nat.zero_add, Nat.mul_one]; exact hfr _ (by simp at hj; omega))
     rw [hz1] at hr
     simp only [Nat.zero_add, Nat.mul_one] at hr
     have hlen : (l ++ m).length = l.length + m.length := by simp
     refine ⟨_, _, hr, .inr ⟨g, cap, by rw [hlen], hBg, by omega, hcm, ?_, ?_, ?_⟩, by simpa [Value.ownBlock] using grown_setCells g (m.map bv) l.length w, below_setCells' hBg _ _ hbv, fun k hk => .inl hk⟩
     ·intro i y hy
      by_cases hi : i < l.length
      ·rw [List.getElem?_append_left hi] at hy
       rw [World.cell?_setCells_out g _ _ _ _ (fun _ _ => .inl hi)]
       exact hcell i y hy
      ·rw [List.getElem?_append_right (by omega)] at hy
       have hj := (List.getElem?_eq_some_iff.1 hy).1
       have h := World.cell?_setCells_in g (m.map bv) l.length w (fun j hj => hsome _ (by simp at hj; omega)) (i - l.length) (by simp; omega)
       rw [show l.length + (i - l.length) = i by omega] at h
       rw [h, List.getElem_map]
       have := (List.getElem?_eq_some_iff.1 hy).2
       rw [this]
     ·intro i hi
      exact World.isSome_setCells g _ _ _ _ (hsome i hi)
     ·intro i hi
      rw [World.frozen?_setCells]
      exact hfr i hi
    ·obtain ⟨v', w', hrun, ho, hg⟩ := run_append_arg_grows (P := Tryz.prog) w 32 32 5 i0 (.int .u8 0) 1 1 Tryz.underlying32 hi0 hz0 hz1 hz2 rfl (by decide) ⟨g, 0, none⟩ l.length cap (l.map bv) (by simp) (fun j u hj => by
       rw [List.getElem?_map] at hj
       obtain ⟨y, hy, rfl⟩ := Option.map_eq_some_iff.1 hj
       rw [add_lit0, Nat.zero_add]
       exact hcell j y hy) ad m.length c (m.map bv) hnl hnews (by omega) (by simp only [maxLen]; omega) (by omega)
     have hB' : Below B w w' := hbv.grown hg hB (fun k hk => by cases hk)
     have ho' : w'.ownsRow w.heap.size 5 1 v' (l ++ m).length ((l ++ m).map bv) := by simpa using ho
     exact ⟨v', w', hrun, (Own.of_row ho').mono hB, ⟨hg.os, hg.tape, hg.output, hg.size, fun k hk _ => hg.block k hk (by simp)⟩, hB', fun k hk => .inr (ho'.lt k hk).1⟩
theorem wpList_append_by {w : World} {ops : Array Oper} {rest : List Oper} {o : Oper} {a : Act} {Q : Exit → Act → World → Prop} (hgd : o.guard = none) (s x : Operand)
  (ho : o.op = .call { callee := .builtin .append, args := #[s, x], argTypes := #[32, 32] }) (hty : o.type = 32) {B : Nat} {v y : Value} {l m : List UInt8}
  (hs : a.eval s = v) (hy : a.eval x = y) (hv : Own B w v l) (hx : By w y m) (hl : l.length + m.length ≤ 140737488355328) (hB : B ≤ w.heap.size)
  (h : ∀ v' w', Own B w' v' (l ++ m) → w.grownBy w' v.ownBlock → Below B w w' → (∀ k, v'.ownBlock = some k → v.ownBlock = some k ∨ w.heap.size ≤ k) → wpList Tryz.prog ops Q rest (a.put o.dst v') w') : wpList Tryz.prog ops Q (o :: rest) a w := by
 obtain ⟨v', w', hr, h1, h2, h3, h4⟩ := run_append_by hv hx hl hB
 exact Lib.wpList_append_run_sl w hgd s x 32 ho v y hs hy (by rw [hty]; exact hr) (h v' w' h1 h2 h3 h4)
theorem run_append_row_by {w : World} {B : Nat} {v x : Value} {l m : List UInt8} (hv : w.ownsRow B 5 1 v l.length (l.map bv)) (hx : By w x m) (hs : l.length + m.length ≤ 140737488355328) (hB : B ≤ w.heap.size) :
  ∃ v' w', (Builtin.append_ #[32, 32] 32 #[v, x]).run Tryz.prog w = .ok v' w' ∧ w'.ownsRow B 5 1 v' (l ++ m).length ((l ++ m).map bv) ∧ Below B w w' := by
 obtain ⟨i0, hi0, hz0, hz1, hz2⟩ := info_parts Tryz.info5
 obtain ⟨p, c, rfl, hlc, hm, hn, hc⟩ := hx
 by_cases h0 : m = []
 ·subst h0
  exact ⟨v, w, run_append_empty (Own.of_row hv) p c, by simpa using hv, Below.refl _ _⟩
 ·have hpos : 0 < m.length := List.length_pos_iff.2 h0
  rcases p with _ | ad
  ·have := hn rfl
   omega
  ·obtain ⟨v', w', hrun, ho, hg, _, hat⟩ := run_append_own_at (P := Tryz.prog) w B 32 32 5 i0 (.int .u8 0) 1 1 Tryz.underlying32 hi0 hz0 hz1 hz2 rfl (by decide) v l.length (l.map bv) hv ad m.length c (m.map bv) (by simp) (fun j u hj => by
    rw [List.getElem?_map] at hj
    obtain ⟨x, hx, rfl⟩ := Option.map_eq_some_iff.1 hj
    exact hc ad rfl j x hx) (oneCell_bytes m) (by simp only [maxLen]; omega) (by omega) hB
   exact ⟨v', w', hrun, by simpa using ho, (Below.refl _ _).grown hg hB fun k hk => (hv.lt k hk).1⟩
theorem wpList_append_row_by {w : World} {ops : Array Oper} {rest : List Oper} {o : Oper} {a : Act} {Q : Exit → Act → World → Prop} (hgd : o.guard = none) (s x : Operand)
  (ho : o.op = .call { callee := .builtin .append, args := #[s, x], argTypes := #[32, 32] }) (hty : o.type = 32) {B : Nat} {v y : Value} {l m : List UInt8}
  (hs : a.eval s = v) (hy : a.eval x = y) (hv : w.ownsRow B 5 1 v l.length (l.map bv)) (hx : By w y m) (hl : l.length + m.length ≤ 140737488355328) (hB : B ≤ w.heap.size)
  (h : ∀ v' w', w'.ownsRow B 5 1 v' (l ++ m).length ((l ++ m).map bv) → Below B w w' → wpList Tryz.prog ops Q rest (a.put o.dst v') w') : wpList Tryz.prog ops Q (o :: rest) a w := by
 obtain ⟨v', w', hr, h1, h2⟩ := run_append_row_by hv hx hl hB
 exact Lib.wpList_append_run_sl w hgd s x 32 ho v y hs hy (by rw [hty]; exact hr) (h v' w' h1 h2)
end Go.Proofs.YtionbmlicmibgaaGreatDoor
namespace Go.Proofs.YtionbmlicmibgaaGreatDoor
open Go.RowKit
theorem row_made0 (w : World) : (w.alloc (.cells #[] 5)).ownsRow w.heap.size 5 1 (.slice (some ⟨w.heap.size, 0, none⟩) 0 0) ([] : List UInt8).length (([] : List UInt8).map bv) := World.ownsRow_made w #[] 0 (Nat.le_refl _) (Nat.zero_le _) rfl
theorem row_below {w w' : World} {B n : Nat} {e : TypeId} {v : Value} {xs : List Value} (h : w.ownsRow B e 1 v n xs) (hb : Below w.heap.size w w') : w'.ownsRow B e 1 v n xs :=
 h.kept (row := none) ⟨hb.os, hb.tape, hb.output, hb.size, fun k hk _ => hb.block k hk⟩ (by cases v.ownBlock <;> simp)
theorem strCells_bv (s : ByteArray) : Lib.strCells s = s.data.toList.map bv := rfl
set_option maxRecDepth 20000 in
set_option maxHeartbeats 400000 in
theorem refNumber_any {w : World} {v : Value} {l : List UInt8} (hv : By w v l) (hl : l.length ≤ 140737488000000) (n : Int) (N : Nat) (hN : max n 0 = (N : Int)) (hn2 : N < lim) :
  Calls Tryz.prog 56 #[v, .int .i64 n] w fun e w' => ∃ v', e = .returned v' ∧ w'.ownsRow w.heap.size 5 1 v' (l ++ digits N).length ((l ++ digits N).map bv) ∧ Below w.heap.size w w' := by
 have hd := digits_length N hn2
 have HV := hide hv
 have HN := hide hN
 clear hv hN
 go_enter Tryz.func56, Tryz.ntmps56
 go_wp2_with (at_builtin; go_must (refine wpList_append_row_by rfl _ _ rfl rfl rfl rfl (row_made0 w) (HV.out.alloc _) (by simp; omega) (by simp) ?_); intro v1 w1 hown1 hb1)
 refine (digits_any N n HN.out hn2 _).mono ?_
 rintro e w2 ⟨v2, rfl, hown2, hb2⟩
 have h1 := row_below hown1 hb2
 have h2 := (Own.of_row hown2).by_
 have hb12 : Below w.heap.size w w1 := ((Below.refl _ w).alloc (Nat.le_refl _) _).trans hb1
 have hb : Below w.heap.size w w2 := hb12.trans (hb2.mono hb12.size)
 have hbs := hb.size
 have H1 := hide h1
 have H2 := hide h2
 have HB := hide hb
 clear hown1 hown2 h1 h2 hb1 hb2 hb12 hb
 go_wp2_with (at_builtin; go_must (refine wpList_append_row_by rfl _ _ rfl rfl rfl rfl H1.out H2.out (by simp; omega) hbs ?_); intro v3 w3 hown3 hb3)
 go_ret
 exact ⟨v3, rfl, hown3, HB.out.trans hb3⟩
set_option maxRecDepth 20000 in
set_option maxHeartbeats 400000 in
theorem refText_any {w : World} {v : Value} {l : List UInt8} (hv : By w v l) (hl : l.length ≤ 1100000) (s : ByteArray) (hs : s.size ≤ 1100000) :
  Calls Tryz.prog 58 #[v, .string s] w fun e w' => ∃ v', e = .returned v' ∧ Own w.heap.size w' v' (l ++ digits s.size ++ s.data.toList) ∧ Below w.heap.size w w' := by
 obtain ⟨i0, hi0, hz0, hz1, hz2⟩ := info_parts Tryz.info5
 have hd := digits_length s.size (by omega)
 have HV := hide hv
 clear hv
 go_enter Tryz.func58, Tryz.ntmps58
 go_wp2_with fail
 refine (refNumber_any HV.out (by omega) _ s.size (by omega) (by unfold lim; omega)).mono ?_
 rintro e w1 ⟨v1, rfl, hown, hb⟩
 have hbs := hb.size
 go_wp2_with (at_builtin; go_must (refine Lib.wpList_append_own_string _ rfl _ _ 32 9 rfl w.heap.size 5 i0 Tryz.underlying32 Tryz.underlying9 hi0 hz0 hz1 hz2 v1 _ _ rfl hown s rfl (by simp [maxLen]; omega) (by simp; omega) hbs ?_); intro v2 w2 hown2 hg2 _)
 go_ret
 have hb2 := below_row hb hg2 hbs hown
 refine ⟨v2, rfl, ?_, hb2⟩
 have e : (l ++ digits s.size).length + s.size = (l ++ digits s.size ++ s.data.toList).length := by
  simp only [List.length_append, Array.length_toList]
  rfl
 rw [e, strCells_bv, ← List.map_append] at hown2
 exact Own.of_row hown2
theorem By.sl {w : World} {v : Value} {l : List UInt8} (h : By w v l) : ∃ p n c, v = .slice p n c := by
 obtain ⟨p, c, e, _⟩ := h
 exact ⟨p, _, c, e⟩
theorem By.len {w : World} {p : Option Addr} {n c : Nat} {l : List UInt8} (h : By w (.slice p n c) l) : n = l.length ∧ n ≤ c := by
 obtain ⟨p', c', e, hl, _⟩ := h
 injection e with _ e2 e3
 subst e2 e3
 exact ⟨rfl, hl⟩
theorem by_of_row {w : World} {a : Option Addr} {len cap : Nat} {zs : List Int}
  (h : (a = none ∧ len = 0 ∧ cap = 0 ∧ zs = []) ∨ ∃ x, a = some x ∧ len ≤ cap ∧ cap ≤ maxLen ∧ zs.length = cap ∧ (∀ i, i < zs.length → w.cell? (x.add i) = some (.int .u8 (zs.getD i 0))) ∧ ∀ n ∈ zs, (Lit.int .u8 n).wf = true) :
  ∃ l : List UInt8, l.length = len ∧ By w (.slice a len cap) l := by
 rcases h with ⟨rfl, rfl, rfl, rfl⟩ | ⟨x, rfl, hl, hm, hz, hc, hw⟩
 ·exact ⟨[], rfl, By.nil w⟩
 ·have hln : (Lib.bytesOf (zs.take len)).length = len := by simp [Lib.bytesOf]; omega
  refine ⟨Lib.bytesOf (zs.take len), hln, some x, cap, by rw [hln], by rw [hln]; exact hl, hm, (fun e => by cases e), fun b e i y hy => ?_⟩
  injection e with e
  subst e
  have hi : i < len := by rw [← hln]; exact (List.getElem?_eq_some_iff.1 hy).1
  rw [hc i (by omega)]
  have hiz : i < zs.length := by omega
  simp only [Lib.bytesOf, List.getElem?_map, List.getElem?_take, hi, if_true, List.getElem?_eq_getElem hiz, Option.map_some, Option.some.injEq] at hy
  have hwf := hw zs[i] (List.getElem_mem hiz)
  have h1 : IntKind.u8.min = 0 := rfl
  have h2 : IntKind.u8.max = 255 := rfl
  simp only [Lit.wf, Bool.and_eq_true, decide_eq_true_eq] at hwf
  simp only [List.getD, List.getElem?_eq_getElem hiz, Option.getD_some, Option.some.injEq, bv, Value.int.injEq, true_and]
  rw [← hy]
  simp
  omega
theorem joinTail_nil (r : List (List UInt8)) : Lib.joinTail [] r = r.flatten := by
 unfold Lib.joinTail
 congr 1
 conv => rhs; rw [← List.map_id r]
 apply List.map_congr_left
 intro x _
 rfl
theorem join_flatten (ls : List (List UInt8)) : Lib.join ls [] = ls.flatten := by
 cases ls with
 | nil => rfl
 | cons x r => rw [Lib.join_cons, joinTail_nil]; rfl
theorem holds_nil (w : World) : Lib.HoldsBytes w (.slice none 0 0) [] := ⟨none, 0, rfl, fun _ => rfl, fun a h => by cases h⟩
set_option maxRecDepth 20000 in
set_option maxHeartbeats 400000 in
theorem join_many {w : World} {b o n c : Nat} {vs : List Value} {ls : List (List UInt8)} (hn : ls.length = n) (h2 : 2 ≤ n) (hP : Lib.PartsAt w ⟨b, o, none⟩ vs ls) (hc : n ≤ c) (hl : Lib.lens ls ≤ 140737488355328) (hn47 : n ≤ 140737488355328) :
  Calls Tryz.prog 98 #[.slice (some ⟨b, o, none⟩) n c] w fun e w' => ∃ v', e = .returned v' ∧ Own w.heap.size w' v' ls.flatten ∧ Below w.heap.size w w' := by
 have H := hide (Tryz.bytes_Join_many b o n c vs ls (.slice none 0 0) [] w hn h2 hP hc (holds_nil w) hn47 (by simpa using hl))
 clear hP hn
 go_enter Tryz.func98, Tryz.ntmps98
 go_wp2_with fail
 refine H.out.mono ?_
 rintro e w1 ⟨v1, rfl, hf, hb⟩
 have HO := hide (Own.of_fresh hf)
 clear hf H
 go_wp2
 go_ret
 exact ⟨v1, rfl, by have := HO.out; rwa [join_flatten] at this, hb⟩
theorem parts_new {w : World} {t : TypeId} {vs : List Value} {ls : List (List UInt8)} (hl : vs.length = ls.length) (h : ∀ (i : Nat) v l, vs[i]? = some v → ls[i]? = some l → By w v l) :
  Lib.PartsAt (w.alloc (.cells vs.toArray t)) ⟨w.heap.size, 0, none⟩ vs ls := by
 refine ⟨hl, fun i v hv => ?_, fun i v l hv hl' => ((h i v l hv hl').alloc _).holds⟩
 rw [add_lit0, Nat.zero_add, cell_of_row _ _ i vs.toArray t (0, 0) (heap_alloc_new w _)]
 simpa using hv
set_option maxRecDepth 20000 in
set_option maxHeartbeats 400000 in
theorem wireNumber_any {w : World} {v : Value} {l : List UInt8} (hv : By w v l) (hl : l.length ≤ 140737488000000) (n : Int) (N : Nat) (hN : max n 0 = (N : Int)) (hn2 : N < lim) :
  Calls Tryz.prog 52 #[v, .int .i64 n] w fun e w' => ∃ v', e = .returned v' ∧ Own w.heap.size w' v' (l ++ digits N) ∧ Below w.heap.size w w' := by
 have hd := digits_length N hn2
 obtain ⟨p0, c0, rfl⟩ := hv.shape
 have HV := hide hv
 have HN := hide hN
 clear hv hN
 go_enter Tryz.func52, Tryz.ntmps52
 go_wp2_with fail
 refine (groups_any n N HN.out hn2 _).mono ?_
 rintro e w1 ⟨v1, rfl, ho, hb⟩
 have hbs := hb.size
 obtain ⟨p1, c1, rfl⟩ := ho.by_.shape
 have HP := hide (parts_new (w := w1) (t := 32) (vs := [.slice p0 l.length c0, .slice p1 (digits N).length c1]) (ls := [l, digits N]) rfl (fun i u m hu hm => by
  match i, hu, hm with
  | 0, hu, hm => simp at hu hm; subst hu hm; exact HV.out.below hb
  | 1, hu, hm => simp at hu hm; subst hu hm; exact ho.by_))
 clear ho
 go_wp2_with fail
 refine (join_many (b := w1.heap.size) (o := 0) (n := 2) (c := 2) rfl (by omega) HP.out (by omega) (by simp [Lib.lens]; omega) (by omega)).mono ?_
 rintro e w2 ⟨v2, rfl, ho2, hb2⟩
 have HO := hide ho2
 clear ho2
 go_wp2
 go_ret
 refine ⟨v2, rfl, (by simpa using HO.out.mono (show w.heap.size ≤ _ by simp; omega)), (hb.alloc hbs _).trans (hb2.mono (by simp; omega))⟩
theorem conv_string (w : World) (s : ByteArray) (hs : s.size ≤ 1100000) :
  ∃ (q : Nat) (w' : World), (convert 9 32 (.string s)).run Tryz.prog w = .ok (.slice (some ⟨w.heap.size, 0, none⟩) s.size q) w' ∧ By w' (.slice (some ⟨w.heap.size, 0, none⟩) s.size q) s.data.toList ∧ Below w.heap.size w w' ∧ w.heap.size < w'.heap.size := by
 have hl : s.data.toList.length = s.size := by rw [Array.length_toList]; rfl
 refine ⟨_, _, run_bytes_of_string (P := Tryz.prog) w 9 32 5 s Tryz.underlying9 Tryz.underlying32 Tryz.underlying5, ?_, ?_, ?_⟩
 ·have h1 := grownCap_ge w s.size 0 5
  have h2 := grownCap_le_maxLen w s.size 0 5 (by simp only [maxLen]; omega)
  generalize grownCap w s.size 0 5 = q at h1 h2
  refine ⟨_, q, by rw [hl], by rw [hl]; exact h1, h2, (fun e => by cases e), fun a e i x hx => ?_⟩
  injection e with e
  subst e
  have hi : i < s.size := by rw [← hl]; exact (List.getElem?_eq_some_iff.1 hx).1
  rw [add_lit0, Nat.zero_add]
  have := World.cell?_alloc_mark w.drew (bytesRow s q) 5 ((bytesRow s q).size, (bytesRow s q).size + 1) i
  rw [show w.drew.heap.size = w.heap.size from rfl] at this
  rw [this]
  have hx' : s.data[i]? = some x := by simpa using hx
  have hi' : i < s.data.size := hi
  unfold bytesRow
  rw [Array.getElem?_append_left (by simpa using hi'), Array.getElem?_map, hx']
  rfl
 ·exact (Below.refl _ w).drew.alloc (Nat.le_refl _) _
 ·simp
set_option maxRecDepth 20000 in
set_option maxHeartbeats 400000 in
theorem wireText_any {w : World} {v : Value} {l : List UInt8} (hv : By w v l) (hl : l.length ≤ 1100000) (s : ByteArray) (hs : s.size ≤ 1100000) :
  Calls Tryz.prog 54 #[v, .string s] w fun e w' => ∃ v', e = .returned v' ∧ Own w.heap.size w' v' (l ++ digits s.size ++ s.data.toList) ∧ Below w.heap.size w w' := by
 have hd := digits_length s.size (by omega)
 have hsl : s.data.toList.length = s.size := by rw [Array.length_toList]; rfl
 have HSL := hide hsl
 clear hsl
 obtain ⟨p0, c0, rfl⟩ := hv.shape
 have HV := hide hv
 clear hv
 go_enter Tryz.func54, Tryz.ntmps54
 go_wp2_with fail
 refine (groups_any _ s.size (by omega) (by unfold lim; omega) _).mono ?_
 rintro e w1 ⟨v1, rfl, ho, hb⟩
 have hbs := hb.size
 obtain ⟨p1, c1, rfl⟩ := ho.by_.shape
 obtain ⟨q, w2, hcv, hby, hb2, hlt⟩ := conv_string w1 s hs
 have hb02 := hb.trans (hb2.mono hbs)
 have HP := hide (parts_new (w := w2) (t := 32) (vs := [.slice p0 l.length c0, .slice p1 (digits s.size).length c1, .slice (some ⟨w1.heap.size, 0, none⟩) s.size q]) (ls := [l, digits s.size, s.data.toList]) rfl (fun i u m hu hm => by
  match i, hu, hm with
  | 0, hu, hm => simp at hu hm; subst hu hm; exact HV.out.below hb02
  | 1, hu, hm => simp at hu hm; subst hu hm; exact (ho.by_).below hb2
  | 2, hu, hm => simp at hu hm; subst hu hm; exact hby))
 have HB := hide hb02
 clear ho hby hb02 hb
 go_wp2_with fail
 refine (join_many (b := w2.heap.size) (o := 0) (n := 3) (c := 3) rfl (by omega) HP.out (by omega) (by simp only [Lib.lens, List.map_cons, List.map_nil, List.sum_cons, List.sum_nil]; rw [HSL.out]; omega) (by omega)).mono ?_
 rintro e w3 ⟨v3, rfl, ho3, hb3⟩
 have HO := hide ho3
 clear ho3 hcv
 go_wp2
 go_ret
 have hbs2 := HB.out.size
 refine ⟨v3, rfl, ?_, (HB.out.alloc hbs2 _).trans (hb3.mono (by simp; omega))⟩
 have := HO.out.mono (show w.heap.size ≤ _ by simp; omega)
 simpa [List.append_assoc] using this
end Go.Proofs.YtionbmlicmibgaaGreatDoor
namespace Go.Proofs.YtionbmlicmibgaaGreatDoor
open Go.RowKit
theorem By.cellAt {w : World} {p : Option Addr} {n c : Nat} {l : List UInt8} (h : By w (.slice p n c) l) {k : Nat} (hk : k < n) :
  ∃ (b o : Nat) (x : UInt8), p = some ⟨b, o, none⟩ ∧ l[k]? = some x ∧ w.cell? ⟨b, o + k, none⟩ = some (.int .u8 (x.toNat : Int)) := by
 have hn := h.len.1
 obtain ⟨p', c', e, hl, hm, hn', hc⟩ := h
 injection e with e1 e2 e3
 subst e1 e3
 rcases p with _ | a
 ·have := hn' rfl
  omega
 ·have hkl : k < l.length := by omega
  have h1 := hc a rfl k l[k] (List.getElem?_eq_getElem hkl)
  have h00 := hc a rfl 0 l[0] (List.getElem?_eq_getElem (by omega))
  obtain ⟨b, o, spot⟩ := a
  have hsp : spot = none := by
   have h2 := World.cell?_spot h00
   unfold Addr.add at h2
   rw [if_pos rfl] at h2
   exact h2
  subst hsp
  exact ⟨b, o, l[k], rfl, List.getElem?_eq_getElem hkl, by rw [add_lit0] at h1; exact h1⟩
def Bss (w : World) (v : Value) (ls : List (List UInt8)) : Prop :=
 ∃ (p : Option Addr) (c : Nat), v = .slice p ls.length c ∧ ls.length ≤ c ∧ c ≤ maxLen ∧ (p = none → c = 0) ∧
  ∀ a, p = some a → ∀ (i : Nat) l, ls[i]? = some l → ∃ u, w.cell? (a.add i) = some u ∧ By w u l
theorem Bss.nil (w : World) : Bss w (.slice none 0 0) [] := ⟨none, 0, rfl, by simp, by simp [maxLen], fun _ => rfl, fun a h => by cases h⟩
theorem Bss.sl {w : World} {v : Value} {ls : List (List UInt8)} (h : Bss w v ls) : ∃ p n c, v = .slice p n c := by
 obtain ⟨p, c, e, _⟩ := h
 exact ⟨p, _, c, e⟩
theorem Bss.len {w : World} {p : Option Addr} {n c : Nat} {ls : List (List UInt8)} (h : Bss w (.slice p n c) ls) : n = ls.length ∧ n ≤ maxLen ∧ n ≤ c := by
 obtain ⟨p', c', e, hl, hm, _⟩ := h
 injection e with _ e2 e3
 omega
theorem Bss.cellAt {w : World} {p : Option Addr} {n c : Nat} {ls : List (List UInt8)} (h : Bss w (.slice p n c) ls) {k : Nat} (hk : k < n) :
  ∃ (b o : Nat) (q : Option Addr) (m d : Nat) (l : List UInt8), p = some ⟨b, o, none⟩ ∧ ls[k]? = some l ∧ w.cell? ⟨b, o + k, none⟩ = some (.slice q m d) ∧ By w (.slice q m d) l := by
 have hn := h.len.1
 obtain ⟨p', c', e, hl, hm, hn', hc⟩ := h
 injection e with e1 e2 e3
 subst e1 e3
 rcases p with _ | a
 ·have := hn' rfl
  omega
 ·have hkl : k < ls.length := by omega
  obtain ⟨u, h1, hb⟩ := hc a rfl k ls[k] (List.getElem?_eq_getElem hkl)
  obtain ⟨u0, h00, _⟩ := hc a rfl 0 ls[0] (List.getElem?_eq_getElem (by omega))
  obtain ⟨b, o, spot⟩ := a
  have hsp : spot = none := by
   have h2 := World.cell?_spot h00
   unfold Addr.add at h2
   rw [if_pos rfl] at h2
   exact h2
  subst hsp
  obtain ⟨q, m, d, rfl⟩ := hb.sl
  exact ⟨b, o, q, m, d, ls[k], rfl, List.getElem?_eq_getElem hkl, by rw [add_lit0] at h1; exact h1, hb⟩
theorem By.lenMax {w : World} {p : Option Addr} {n c : Nat} {l : List UInt8} (h : By w (.slice p n c) l) : (n : Int) ≤ 9223372036854775807 := by
 obtain ⟨p', c', e, hl, hm, _⟩ := h
 injection e with _ e2 e3
 unfold maxLen at hm
 omega
theorem Bss.of_parts {w : World} {b o n c : Nat} {vs : List Value} {ls : List (List UInt8)} (hn : n = ls.length) (hc : n ≤ c) (hm : c ≤ maxLen) (hl : vs.length = ls.length)
  (hcell : ∀ (i : Nat) v, vs[i]? = some v → w.cell? ⟨b, o + i, none⟩ = some v) (h : ∀ (i : Nat) v l, vs[i]? = some v → ls[i]? = some l → By w v l) : Bss w (.slice (some ⟨b, o, none⟩) n c) ls := by
 subst hn
 refine ⟨_, c, rfl, hc, hm, (fun e => by cases e), fun a e i l hi => ?_⟩
 injection e with e
 subst e
 have hil : i < vs.length := by rw [hl]; exact (List.getElem?_eq_some_iff.1 hi).1
 exact ⟨vs[i], by rw [add_lit0]; exact hcell i _ (List.getElem?_eq_getElem hil), h i _ l (List.getElem?_eq_getElem hil) hi⟩
theorem Bss.new {w : World} {t : TypeId} {n : Nat} {vs : List Value} {ls : List (List UInt8)} (hn : n = ls.length) (hm : n ≤ maxLen) (hl : vs.length = ls.length) (h : ∀ (i : Nat) v l, vs[i]? = some v → ls[i]? = some l → By w v l) :
  Bss (w.alloc (.cells vs.toArray t)) (.slice (some ⟨w.heap.size, 0, none⟩) n n) ls := by
 refine Bss.of_parts hn (Nat.le_refl _) hm hl (fun i v hv => ?_) fun i v l hv hl' => (h i v l hv hl').alloc _
 rw [Nat.zero_add, cell_of_row _ _ i vs.toArray t (0, 0) (heap_alloc_new w _)]
 simpa using hv
theorem Bss.parts {w : World} {b o n c : Nat} {ls : List (List UInt8)} (h : Bss w (.slice (some ⟨b, o, none⟩) n c) ls) : ∃ vs, Lib.PartsAt w ⟨b, o, none⟩ vs ls := by
 have hn := h.len.1
 obtain ⟨p', c', e, hl, hm, hn', hc⟩ := h
 injection e with e1 e2 e3
 subst e1 e3
 refine ⟨(List.range ls.length).map fun i => (w.cell? ⟨b, o + i, none⟩).getD undef, by simp, fun i v hv => ?_, fun i v l hv hl' => ?_⟩
 all_goals
  have hi : i < ls.length := by have := (List.getElem?_eq_some_iff.1 hv).1; simpa using this
  obtain ⟨u, hu, hb⟩ := hc _ rfl i ls[i] (List.getElem?_eq_getElem hi)
  rw [add_lit0] at hu
  simp only [List.getElem?_map, List.getElem?_range hi, Option.map_some, Option.some.injEq, hu, Option.getD_some] at hv
  subst hv
 ·rw [add_lit0]
  exact hu
 ·rw [List.getElem?_eq_getElem hi] at hl'
  injection hl' with hl'
  subst hl'
  exact hb.holds
theorem join_step {w : World} {v : Value} {P : Ending → World → Prop} (h : Calls Tryz.prog 135 #[v, .slice none 0 0] w fun e w' => ∃ v', e = .returned v' ∧ P (.returned v') w') :
  Calls Tryz.prog 98 #[v] w fun e w' => P e w' := by
 have H := hide h
 clear h
 go_enter Tryz.func98, Tryz.ntmps98
 go_wp2_with fail
 refine H.out.mono ?_
 rintro e w1 ⟨v1, rfl, hp⟩
 have HP := hide hp
 clear hp H
 go_wp2
 exact HP.out
theorem flatten_one (l : List UInt8) : [l].flatten = l := by simp
theorem join_any {w : World} {v : Value} {ls : List (List UInt8)} (hv : Bss w v ls) (hl : Lib.lens ls ≤ 140737488355328) (hn47 : ls.length ≤ 140737488355328) :
  Calls Tryz.prog 98 #[v] w fun e w' => ∃ v', e = .returned v' ∧ Own w.heap.size w' v' ls.flatten ∧ Below w.heap.size w w' := by
 obtain ⟨p, n, c, rfl⟩ := hv.sl
 obtain ⟨hn, hm, hnc⟩ := hv.len
 by_cases h2 : 2 ≤ n
 ·obtain ⟨b, o, _, _, _, _, rfl, _⟩ := hv.cellAt (k := 0) (by omega)
  obtain ⟨vs, hP⟩ := hv.parts
  exact join_many hn.symm h2 hP hnc hl (by omega)
 ·refine join_step (P := fun e w' => ∃ v', e = .returned v' ∧ Own w.heap.size w' v' ls.flatten ∧ Below w.heap.size w w') ?_
  by_cases h1 : n = 1
  ·subst h1
   obtain ⟨b, o, q, m, d, l, rfl, hx, hcell, hby⟩ := hv.cellAt (k := 0) (by omega)
   have hls : ls = [l] := by
    cases ls with
    | nil => simp at hx
    | cons x r =>
     simp at hx
     subst hx
     cases r with
     | nil => rfl
     | cons y r => simp at hn
   subst hls
   rw [flatten_one]
   rw [Nat.add_zero] at hcell
   obtain ⟨hml, hmd⟩ := hby.len
   by_cases h0 : l.length = 0
   ·obtain rfl : l = [] := List.eq_nil_of_length_eq_zero h0
    obtain rfl : m = 0 := hml
    exact (Tryz.bytes_Join_one_empty b o c q d _ w hcell).mono fun e w' ⟨he, hw⟩ => ⟨_, he, _, rfl, Own.nil _ _, by rw [hw]; exact Below.refl _ _⟩
   ·obtain ⟨b2, o2, x, rfl, _, _⟩ := hby.cellAt (k := 0) (by omega)
    subst hml
    obtain ⟨q', d', e, _, _, _, hc⟩ := hby
    injection e with e1 e2 e3
    subst e1
    exact (Tryz.bytes_Join_one b o c _ d l _ w hcell (fun i x hx => hc _ rfl i x hx) (by omega) (by simp [Lib.lens] at hl; omega)).mono fun e w' ⟨v', he, hf, hb⟩ => ⟨_, he, _, rfl, Own.of_fresh hf, hb⟩
  ·obtain rfl : n = 0 := by omega
   obtain rfl : ls = [] := List.eq_nil_of_length_eq_zero hn.symm
   refine (Tryz.bytes_Join_none p c _ w).mono fun e w' ⟨he, hw⟩ => ⟨_, he, _, rfl, ?_, by rw [hw]; exact (Below.refl _ _).alloc (Nat.le_refl _) _⟩
   refine .inr ⟨w.heap.size, 0, rfl, Nat.le_refl _, Nat.le_refl _, by simp [maxLen], fun i x hx => by simp at hx, fun i hi => by omega, fun i hi => by omega⟩
theorem flatten_length (ls : List (List UInt8)) : ls.flatten.length = Lib.lens ls := by
 rw [List.length_flatten]
 rfl
theorem size_alloc' (w : World) (o : Obj) : (w.alloc o).heap.size = w.heap.size + 1 := by simp
theorem two_parts {w : World} {v u : Value} {l m : List UInt8} (h : By w v l) (h2 : By w u m) : Bss (w.alloc (.cells #[v, u] 32)) (.slice (some ⟨w.heap.size, 0, none⟩) 2 2) [l, m] :=
 Bss.new (vs := [v, u]) rfl (by decide) rfl fun i u m hu hm => by
  match i, hu, hm with
  | 0, hu, hm => simp at hu hm; subst hu hm; exact h
  | 1, hu, hm => simp at hu hm; subst hu hm; exact h2
end Go.Proofs.YtionbmlicmibgaaGreatDoor
namespace Go.Proofs.YtionbmlicmibgaaGreatDoor
open Go.RowKit
theorem elemB : Tryz.prog.elem 32 = 5 := by simp [Program.elem, Tryz.underlying32]
theorem underB' : Tryz.prog.underlying 32 = some (.slice (Tryz.prog.elem 32)) := by rw [elemB]; exact Tryz.underlying32
theorem cut_from {w : World} {p : Option Addr} {n c : Nat} {l : List UInt8} (h : By w (.slice p n c) l) {k : Nat} (hk : k ≤ n) :
  ∃ q, (∀ W : World, (Instr.slice 32 (.slice p n c) (some (.int .i64 (k : Int))) none none).run Tryz.prog W = .ok (.slice q (n - k) (c - k)) W) ∧ By w (.slice q (n - k) (c - k)) (l.drop k) := by
 have hn := h.len
 obtain ⟨p', c', e, hl, hm, hno, hc⟩ := h
 injection e with e1 e2 e3
 subst e1 e3
 refine ⟨if c = k then p else p.map (·.add k), fun W => ?_, ?_⟩
 ·rw [run_slice_l W 32 _ _ _ underB' .i64 _ (by omega) (by omega), elemB, Tryz.sizeOf5]
  have e4 : ((k : Int)).toNat = k := by omega
  simp only [e4, Result.andThen, sliced, Nat.mul_one]
 ·refine ⟨if c = k then p else p.map (·.add k), c - k, ?_, by rw [List.length_drop]; omega, by omega, ?_, fun a ea i x hx => ?_⟩
  ·rw [List.length_drop, hn.1]
  ·intro hq
   split at hq
   ·rename_i hck
    omega
   ·rcases p with _ | a
    ·have := hno rfl
     omega
    ·simp at hq
  ·rw [List.getElem?_drop] at hx
   have hlt := (List.getElem?_eq_some_iff.1 hx).1
   rw [if_neg (by omega)] at ea
   rcases p with _ | a0
   ·simp at ea
   ·simp only [Option.map_some, Option.some.injEq] at ea
    subst ea
    have hadd : (a0.add k).add i = a0.add (k + i) := by
     unfold Addr.add
     by_cases hk0 : k = 0 <;> by_cases hi : i = 0 <;> simp [hk0, hi, Nat.add_assoc]
    rw [hadd]
    exact hc a0 rfl _ x hx
theorem cut_to {w : World} {p : Option Addr} {n c : Nat} {l : List UInt8} (h : By w (.slice p n c) l) {k : Nat} (hk : k ≤ n) : By w (.slice p k c) (l.take k) := by
 have hn := h.len
 obtain ⟨p', c', e, hl, hm, hno, hc⟩ := h
 injection e with e1 e2 e3
 subst e1 e3
 have hlk : (l.take k).length = k := by rw [List.length_take]; omega
 refine ⟨p, c, by rw [hlk], by omega, hm, hno, fun a ea i x hx => hc a ea i x ?_⟩
 rw [List.getElem?_take] at hx
 split at hx
 ·exact hx
 ·cases hx
theorem run_cut_to (W : World) (p : Option Addr) (n c k : Nat) (hk : k ≤ c) : (Instr.slice 32 (.slice p n c) none (some (.int .i64 (k : Int))) none).run Tryz.prog W = .ok (.slice p k c) W := by
 rw [run_slice_h W 32 _ _ _ underB' .i64 _ (by omega) (by omega), elemB, Tryz.sizeOf5]
 have e4 : ((k : Int)).toNat = k := by omega
 rcases p with _ | a
 ·simp [Result.andThen, sliced, e4]
 ·by_cases hc : c = 0
  ·simp [Result.andThen, sliced, e4, hc]
  ·simp [Result.andThen, sliced, e4, Addr.add]
theorem cut_mid {w : World} {p : Option Addr} {n c : Nat} {l : List UInt8} (h : By w (.slice p n c) l) {j k : Nat} (hjk : j ≤ k) (hk : k ≤ n) :
  ∃ q, (∀ W : World, (Instr.slice 32 (.slice p n c) (some (.int .i64 (j : Int))) (some (.int .i64 (k : Int))) none).run Tryz.prog W = .ok (.slice q (k - j) (c - j)) W) ∧ By w (.slice q (k - j) (c - j)) ((l.take k).drop j) := by
 have hn := h.len
 obtain ⟨q, hr, hb⟩ := cut_from (cut_to h hk) hjk
 refine ⟨if c = j then p else p.map (·.add j), fun W => ?_, ?_⟩
 ·rw [run_slice_lh W 32 _ _ _ underB' .i64 .i64 _ _ (by omega) (by omega) (by omega), elemB, Tryz.sizeOf5]
  have e4 : ((j : Int)).toNat = j := by omega
  have e5 : ((k : Int)).toNat = k := by omega
  simp only [e4, e5, Result.andThen, sliced, Nat.mul_one]
 ·have h2 := hr w
  rw [run_slice_l w 32 _ _ _ underB' .i64 _ (by omega) (by omega), elemB, Tryz.sizeOf5] at h2
  have e4 : ((j : Int)).toNat = j := by omega
  simp only [e4, Result.andThen, sliced, Nat.mul_one, Result.ok.injEq, Value.slice.injEq, and_true] at h2
  rw [h2]
  exact hb
end Go.Proofs.YtionbmlicmibgaaGreatDoor
namespace Go.Proofs.YtionbmlicmibgaaGreatDoor
open Go.RowKit
def rd : List UInt8 → Nat → Nat → Nat × Nat × Nat
 | [], _, _ => (0, 0, 2)
 | x :: r, i, n => if i = 0 ∧ x.toNat = 128 then (0, 0, 10) else if i = 9 then (0, 0, 5) else if x.toNat < 128 then (n * 128 + x.toNat % 128, i + 1, 0) else rd r (i + 1) (n * 128 + x.toNat % 128)
def readNum (b : List UInt8) : Nat × Nat × Nat := rd b 0 0
theorem rd_at {l : List UInt8} {i : Nat} {x : UInt8} (hx : l[i]? = some x) (n : Nat) :
  rd (l.drop i) i n = if i = 0 ∧ x.toNat = 128 then (0, 0, 10) else if i = 9 then (0, 0, 5) else if x.toNat < 128 then (n * 128 + x.toNat % 128, i + 1, 0) else rd (l.drop (i + 1)) (i + 1) (n * 128 + x.toNat % 128) := by
 have hi := (List.getElem?_eq_some_iff.1 hx).1
 rw [List.drop_eq_getElem_cons hi, (List.getElem?_eq_some_iff.1 hx).2]
 rfl
theorem rd_end {l : List UInt8} {i : Nat} (hi : l.length ≤ i) (n : Nat) : rd (l.drop i) i n = (0, 0, 2) := by
 rw [List.drop_eq_nil_of_le hi]
 rfl
theorem ret3 {k1 k2 k3 : IntKind} {a a' b b' c c' : Int} (h1 : a = a') (h2 : b = b') (h3 : c = c') : Ending.returned (.tuple #[.int k1 a, .int k2 b, .int k3 c]) = .returned (.tuple #[.int k1 a', .int k2 b', .int k3 c']) := by
 rw [h1, h2, h3]
theorem ret2 {k1 k2 : IntKind} {a a' b b' : Int} (h1 : a = a') (h2 : b = b') : Ending.returned (.tuple #[.int k1 a, .int k2 b]) = .returned (.tuple #[.int k1 a', .int k2 b']) := by
 rw [h1, h2]
theorem and_u8 (x : UInt8) : bits BinOp.and IntKind.u8 (x.toNat : Int) 127 = ((x.toNat % 128 : Nat) : Int) := and_all ⟨x.toNat, x.toNat_lt⟩
theorem i64_or7 (z y : Nat) (hz : z < 128 ^ 8) (hy : y < 128) : bits BinOp.or IntKind.i64 ((z : Int) * 128) (y : Int) = ((z * 128 + y : Nat) : Int) := by
 have e : z * 128 + y = (z * 128) ||| y := by
  have := Nat.shiftLeft_add_eq_or_of_lt (i := 7) (b := y) (by omega) z
  rw [Nat.shiftLeft_eq] at this
  exact this
 have hx : (z * 128) ||| y < 9223372036854775808 := by rw [← e]; omega
 have e2 : ((z : Int) * 128) = ((z * 128 : Nat) : Int) := by omega
 rw [e, e2]
 show IntKind.i64.wrap ((BitVec.ofInt 64 ((z * 128 : Nat) : Int) ||| BitVec.ofInt 64 (y : Int)).toNat : Int) = _
 rw [BitVec.toNat_or, BitVec.ofInt_natCast, BitVec.ofInt_natCast, BitVec.toNat_ofNat, BitVec.toNat_ofNat, Nat.mod_eq_of_lt (by omega), Nat.mod_eq_of_lt (by omega), IntKind.wrap_i64]
 omega
set_option maxRecDepth 200000 in
set_option maxHeartbeats 1100000 in
theorem refRead_any {w : World} {v : Value} {l : List UInt8} (hv : By w v l) {N K E : Nat} (hR : readNum l = (N, K, E)) :
  Calls Tryz.prog 110 #[v] w fun e w' => e = .returned (.tuple #[.int .i64 N, .int .i64 K, .int .i64 E]) ∧ w = w' := by
 obtain ⟨p, m, c, rfl⟩ := hv.sl
 obtain ⟨hm, _⟩ := hv.len
 have hmm := hv.lenMax
 have HV := hide hv
 have HM := hide hm
 have HR := hide hR
 clear hv hm hR
 go_enter Tryz.func110, Tryz.ntmps110
 go_wp2
 go_loop [5, 6] (fun a i => ∃ k z : Nat, k ≤ 9 ∧ i = .int .i64 k ∧ a = .int .i64 z ∧ z < 128 ^ k ∧ rd (l.drop k) k z = (N, K, E)) (fun _ i => 10 - (intOf i).toNat)
 case atStart => exact ⟨0, 0, by omega, rfl, rfl, by omega, HR.out⟩
 case round =>
  obtain ⟨k, z, hk, rfl, rfl, hz, hrd⟩ := hrel
  have HRD := hide hrd
  clear hrd
  by_cases hkm : (k : Int) < (m : Int)
  ·obtain ⟨b, o, x, rfl, hx, hcell⟩ := HV.out.cellAt (k := k) (by omega)
   have hrd := HRD.out
   rw [rd_at hx] at hrd
   have hxl : (x.toNat : Int) < 256 := by have := x.toNat_lt; omega
   clear hx HRD
   have guard : (((k : Int) == 0) = true ∧ ((x.toNat : Int) == 128) = true ∧ k = 0 ∧ x.toNat = 128) ∨ ((((k : Int) == 0) = false ∨ (((k : Int) == 0) = true ∧ ((x.toNat : Int) == 128) = false)) ∧ ¬ (k = 0 ∧ x.toNat = 128)) := by
    by_cases h0 : k = 0
    ·by_cases h1 : x.toNat = 128
     ·exact .inl ⟨by simp; omega, by simp; omega, h0, h1⟩
     ·exact .inr ⟨.inr ⟨by simp; omega, by simp; omega⟩, fun h => h1 h.2⟩
    ·exact .inr ⟨.inl (by simp; omega), fun h => h0 h.1⟩
   rcases guard with ⟨g1, g2, h0, h1⟩ | ⟨g, hno⟩
   ·rw [if_pos ⟨h0, h1⟩] at hrd
    simp only [Prod.mk.injEq] at hrd
    obtain ⟨rfl, rfl, rfl⟩ := hrd
    clear h0 h1 HR
    go_wp2
    go_ret3
    exact ⟨rfl, rfl⟩
   ·rw [if_neg hno] at hrd
    by_cases h9 : k = 9
    ·rw [if_pos h9] at hrd
     simp only [Prod.mk.injEq] at hrd
     obtain ⟨rfl, rfl, rfl⟩ := hrd
     have g3 : ((k : Int) == 9) = true := by simp; omega
     clear h9 hno HR
     rcases g with g | ⟨g, g2⟩
     all_goals
      go_wp2
      go_ret3
      exact ⟨rfl, rfl⟩
    ·rw [if_neg h9] at hrd
     have g3 : ((k : Int) == 9) = false := by simp; omega
     have hz8 : z < 128 ^ 8 := Nat.lt_of_lt_of_le hz (Nat.pow_le_pow_right (by decide) (by omega))
     have hz8' : (z : Int) ≤ 72057594037927935 := by omega
     have hzk : z * 128 + x.toNat % 128 < 128 ^ (k + 1) := by rw [Nat.pow_succ]; omega
     have hk9 : k + 1 ≤ 9 := by omega
     have HZK := hide hzk
     clear hz hz8 hzk h9 hno HR
     by_cases hlt : (x.toNat : Int) < 128
     ·rw [if_pos (by omega)] at hrd
      simp only [Prod.mk.injEq] at hrd
      obtain ⟨rfl, rfl, rfl⟩ := hrd
      rcases g with g | ⟨g, g2⟩
      all_goals
       go_wp2
       go_ret3
       exact ⟨ret3 (by omega) (by omega) rfl, rfl⟩
     ·rw [if_neg (by omega)] at hrd
      have HRD := hide hrd
      clear hrd
      rcases g with g | ⟨g, g2⟩
      all_goals
       go_wp2
       go_round
       case rel => exact ⟨k + 1, z * 128 + x.toNat % 128, hk9, by go_num, by go_num, HZK.out, HRD.out⟩
       case measure => simp [intOf]; omega
  ·have hrd := HRD.out
   rw [rd_end (by have := HM.out; omega)] at hrd
   simp only [Prod.mk.injEq] at hrd
   obtain ⟨rfl, rfl, rfl⟩ := hrd
   clear HR HRD
   go_wp2
   go_ret3
   exact ⟨rfl, rfl⟩
theorem grown_drewN {w w' : World} {row : Option Nat} (h : w.grownBy w' row) (n : Nat) : w.grownBy (w'.drewN n) row := ⟨h.os, h.tape, h.output, h.size, h.block⟩
def NumPost (w : World) (g t : Nat) (cs : Array Value) (at_ N K E : Nat) (e : Ending) (w' : World) : Prop :=
 e = .returned (.tuple #[.int .i64 N, .int .i64 E]) ∧ w'.heap[g]? = some (.cells (cs.setIfInBounds 1 (.int .i64 ((at_ + K : Nat) : Int))) t (0, 0)) ∧ w.grownBy w' (some g)
set_option maxRecDepth 200000 in
set_option maxHeartbeats 1100000 in
theorem number_any {w : World} {g t : Nat} {cs : Array Value} {p : Option Addr} {n c at_ : Nat} {l : List UInt8} (hB : w.heap[g]? = some (.cells cs t (0, 0))) (h0 : cs[0]? = some (.slice p n c)) (h1 : cs[1]? = some (.int .i64 (at_ : Int)))
  (hby : By w (.slice p n c) l) (hat : at_ ≤ n) {N K E : Nat} (hR : readNum (l.drop at_) = (N, K, E)) :
  Calls Tryz.prog 142 #[.pointer (some ⟨g, 0, none⟩)] w (NumPost w g t cs at_ N K E) := by
 obtain ⟨q, hcut, hr⟩ := cut_from hby hat
 have hat' : (at_ : Int) ≤ (n : Int) := by omega
 have hmm := hby.lenMax
 obtain ⟨m, hm⟩ : ∃ m, n - at_ = m := ⟨_, rfl⟩
 obtain ⟨d, hd⟩ : ∃ d, c - at_ = d := ⟨_, rfl⟩
 rw [hm, hd] at hr
 simp only [hm, hd] at hcut
 have hmn : m + at_ ≤ n := by omega
 obtain ⟨r, hrr⟩ : ∃ r, l.drop at_ = r := ⟨_, rfl⟩
 rw [hrr] at hr hR
 have hc0 : w.cell? ⟨g, 0, none⟩ = some (.slice p n c) := by rw [cell_of_row w g 0 cs t (0, 0) hB]; exact h0
 have hc1 : w.cell? ⟨g, 1, none⟩ = some (.int .i64 (at_ : Int)) := by rw [cell_of_row w g 1 cs t (0, 0) hB]; exact h1
 have hf1 := frozen_of_row w g 1 cs t hB
 have HC1 := hide h1
 have HB := hide hB
 have HRY := hide hr
 have HR := hide hR
 have HM := hide hr.len.1
 clear hB h0 h1 hby hr hR hm hd hrr
 have hset0 : cs.setIfInBounds 1 (.int .i64 ((at_ + 0 : Nat) : Int)) = cs := by
  rw [Nat.add_zero]
  apply Array.ext
  ·simp
  ·intro i h1 h2
   rw [Array.getElem_setIfInBounds h2]
   split
   ·rename_i hi
    subst hi
    have := HC1.out
    rw [Array.getElem?_eq_getElem h2] at this
    injection this with this
    exact this.symm
   ·rfl
 have HSET := hide hset0
 clear hset0 HC1
 by_cases hm0 : (0 : Int) < (m : Int)
 ·obtain ⟨b, o, x, rfl, hx, hcell⟩ := HRY.out.cellAt (k := 0) (by omega)
  rw [Nat.add_zero] at hcell
  by_cases h128 : x.toNat = 128
  ·have g1 : ((x.toNat : Int) == 128) = true := by simp; omega
   have hrd := HR.out
   unfold readNum at hrd
   rw [← List.drop_zero (l := r), rd_at hx, if_pos ⟨rfl, h128⟩] at hrd
   simp only [Prod.mk.injEq] at hrd
   obtain ⟨rfl, rfl, rfl⟩ := hrd
   clear hx h128 HR
   go_enter Tryz.func142, Tryz.ntmps142
   go_wp2
   go_quiet (fail)
   go_wp2
   go_ret2
   exact ⟨rfl, by rw [HSET.out]; exact HB.out, grown_drewN (World.grownBy.refl w _) _⟩
  ·have g1 : ((x.toNat : Int) == 128) = false := by simp; omega
   have HX := hide hx
   have H128 := hide h128
   clear hx h128
   go_enter Tryz.func142, Tryz.ntmps142
   go_wp2
   go_quiet (fail)
   go_wp2
   clear hcell hc0 g1
   go_loop [5, 6, 7, 28] (fun a _ _ i => ∃ k z : Nat, k ≤ 9 ∧ i = .int .i64 k ∧ a = .int .i64 z ∧ z < 128 ^ k ∧ rd (r.drop k) k z = (N, K, E)) (fun _ _ _ i => 10 - (intOf i).toNat)
   case atStart => exact ⟨0, 0, by omega, rfl, rfl, by omega, HR.out⟩
   case round =>
    obtain ⟨k, z, hk, rfl, rfl, hz, hrd⟩ := hrel
    have HRD := hide hrd
    clear hrd HR
    by_cases hkm : (k : Int) < (m : Int)
    ·obtain ⟨b2, o2, y, e2, hy, hcell⟩ := HRY.out.cellAt (k := k) (by omega)
     injection e2 with e2
     injection e2 with e2 e3
     subst e2 e3
     have hrd := HRD.out
     rw [rd_at hy] at hrd
     have hno : ¬ (k = 0 ∧ y.toNat = 128) := by
      rintro ⟨rfl, h2⟩
      have := HX.out
      rw [hy] at this
      injection this with this
      subst this
      exact H128.out h2
     rw [if_neg hno] at hrd
     have hyl : (y.toNat : Int) < 256 := by have := y.toNat_lt; omega
     clear hy HRD hno
     by_cases h9 : k = 9
     ·rw [if_pos h9] at hrd
      simp only [Prod.mk.injEq] at hrd
      obtain ⟨rfl, rfl, rfl⟩ := hrd
      have g3 : ((k : Int) == 9) = true := by simp; omega
      clear h9
      go_wp2
      go_ret2
      exact ⟨rfl, by rw [HSET.out]; exact HB.out, grown_drewN (World.grownBy.refl w _) _⟩
     ·rw [if_neg h9] at hrd
      have g3 : ((k : Int) == 9) = false := by simp; omega
      have hz8 : z < 128 ^ 8 := Nat.lt_of_lt_of_le hz (Nat.pow_le_pow_right (by decide) (by omega))
      have hz8' : (z : Int) ≤ 72057594037927935 := by omega
      have hzk : z * 128 + y.toNat % 128 < 128 ^ (k + 1) := by rw [Nat.pow_succ]; omega
      have hk9 : k + 1 ≤ 9 := by omega
      have ea := and_u8 y
      have eo : bits BinOp.or IntKind.i64 ((z : Int) * 128) ((y.toNat : Int) % 128) = ((z * 128 + y.toNat % 128 : Nat) : Int) := by
       rw [show ((y.toNat : Int) % 128) = ((y.toNat % 128 : Nat) : Int) by omega]
       exact i64_or7 z (y.toNat % 128) hz8 (by omega)
      have HEO := hide eo
      clear eo
      have HZK := hide hzk
      clear hz hz8 hzk h9
      by_cases hlt : (y.toNat : Int) < 128
      ·rw [if_pos (by omega)] at hrd
       simp only [Prod.mk.injEq] at hrd
       obtain ⟨rfl, rfl, rfl⟩ := hrd
       have hsum : (at_ : Int) + ((k : Int) + 1) ≤ 9223372036854775807 := by omega
       go_wp2
       go_ret2
       refine ⟨ret2 HEO.out rfl, ?_, ?_⟩
       ·have h := heap_setCell_same (w.drewN nq) g 1 cs t (.int .i64 ((at_ : Int) + ((k : Int) + 1))) HB.out
        rw [h]
        have e : (at_ : Int) + ((k : Int) + 1) = ((at_ + (k + 1) : Nat) : Int) := by omega
        rw [e]
       ·exact ⟨rfl, rfl, rfl, by simp [World.setCell, World.drewN], fun i _ hi => heap_setCell_other (w.drewN nq) ⟨g, 1, none⟩ i _ (fun e => hi (by rw [e]))⟩
      ·rw [if_neg (by omega)] at hrd
       have HRD := hide hrd
       clear hrd
       go_wp2
       go_round
       case rel => exact ⟨k + 1, z * 128 + y.toNat % 128, hk9, by go_num, by rw [HEO.out], HZK.out, HRD.out⟩
       case measure => simp [intOf]; omega
    ·have hrd := HRD.out
     rw [rd_end (by have := HM.out; omega)] at hrd
     simp only [Prod.mk.injEq] at hrd
     obtain ⟨rfl, rfl, rfl⟩ := hrd
     clear HRD
     go_wp2
     go_ret2
     exact ⟨rfl, by rw [HSET.out]; exact HB.out, grown_drewN (World.grownBy.refl w _) _⟩
 ·have hrd := HR.out
  unfold readNum at hrd
  rw [← List.drop_zero (l := r), rd_end (by have := HM.out; omega)] at hrd
  simp only [Prod.mk.injEq] at hrd
  obtain ⟨rfl, rfl, rfl⟩ := hrd
  clear HR
  go_enter Tryz.func142, Tryz.ntmps142
  go_wp2
  go_quiet (fail)
  go_wp2
  refine wp_loop_rounds 1 ?_
  rw [rounds_succ]
  go_wp2
  go_ret2
  exact ⟨rfl, by rw [HSET.out]; exact HB.out, grown_drewN (World.grownBy.refl w _) _⟩
end Go.Proofs.YtionbmlicmibgaaGreatDoor
namespace Go.Proofs.YtionbmlicmibgaaGreatDoor
theorem rd_cons (x : UInt8) (r : List UInt8) (i n : Nat) :
  rd (x :: r) i n = if i = 0 ∧ x.toNat = 128 then (0, 0, 10) else if i = 9 then (0, 0, 5) else if x.toNat < 128 then (n * 128 + x.toNat % 128, i + 1, 0) else rd r (i + 1) (n * 128 + x.toNat % 128) := rfl
theorem u8_eq {x : UInt8} {k : Nat} (h : k < 256) (e : x.toNat = k) : x = UInt8.ofNat k := by
 apply UInt8.toNat_inj.1
 rw [e]
 simp
 omega
theorem ofNat_toNat {k : Nat} (h : k < 256) : (UInt8.ofNat k).toNat = k := by simp; omega
theorem rd_form : ∀ (l : List UInt8) (i z : Nat), i ≤ 9 → (z = 0 ↔ i = 0) → z < 128 ^ i → ∀ {n k : Nat}, rd l i z = (n, k, 0) → i ≤ k ∧ k ≤ 9 ∧ k - i ≤ l.length ∧ hi z ++ l.take (k - i) = digits n ∧ n < 128 ^ k
 | [], i, z, _, _, _, n, k, h => by simp [rd] at h
 | x :: r, i, z, hi9, hz, hb, n, k, h => by
  rw [rd_cons] at h
  have hxl := x.toNat_lt
  split at h
  ·simp at h
  ·rename_i hno
   split at h
   ·simp at h
   ·rename_i h9
    split at h
    ·rename_i hlt
     simp only [Prod.mk.injEq, and_true] at h
     obtain ⟨rfl, rfl⟩ := h
     refine ⟨by omega, by omega, by simp, ?_, ?_⟩
     ·rw [show i + 1 - i = 1 by omega]
      unfold digits
      have e1 : (z * 128 + x.toNat % 128) / 128 = z := by omega
      have e2 : (z * 128 + x.toNat % 128) % 128 = x.toNat := by omega
      rw [e1, e2, ← u8_eq (by omega) rfl]
      rfl
     ·rw [Nat.pow_succ]; omega
    ·rename_i hge
     have e1 : (z * 128 + x.toNat % 128) / 128 = z := by omega
     have e2 : (z * 128 + x.toNat % 128) % 128 + 128 = x.toNat := by omega
     have hz' : z * 128 + x.toNat % 128 ≠ 0 := by
      intro h0
      have hz0 : z = 0 := by omega
      exact hno ⟨hz.1 hz0, by omega⟩
     obtain ⟨g1, g2, g3, g4, g5⟩ := rd_form r (i + 1) (z * 128 + x.toNat % 128) (by omega) ⟨fun h => absurd h hz', fun h => by omega⟩ (by rw [Nat.pow_succ]; omega) h
     refine ⟨by omega, g2, by simp; omega, ?_, g5⟩
     rw [hi_pos hz', e1, e2, ← u8_eq (by omega) rfl] at g4
     rw [show k - i = (k - (i + 1)) + 1 by omega, List.take_succ_cons, ← g4]
     simp
theorem readNum_form {l : List UInt8} {n k : Nat} (h : readNum l = (n, k, 0)) : k ≤ l.length ∧ k ≤ 9 ∧ l.take k = digits n ∧ n < 128 ^ k := by
 obtain ⟨_, g2, g3, g4, g5⟩ := rd_form l 0 0 (by omega) ⟨fun _ => rfl, fun _ => rfl⟩ (by decide) h
 rw [hi_zero, Nat.sub_zero] at g4
 exact ⟨by omega, g2, by simpa using g4, g5⟩
theorem rd_hi : ∀ (m : Nat) (s : List UInt8), (hi m).length ≤ 9 → rd (hi m ++ s) 0 0 = rd s (hi m).length m := by
 intro m
 induction m using Nat.strongRecOn with
 | _ m ih =>
  intro s hl
  by_cases h0 : m = 0
  ·subst h0
   rw [hi_zero]
   rfl
  ·have hp := hi_pos h0
   have hlen : (hi m).length = (hi (m / 128)).length + 1 := by rw [hp]; simp
   rw [hp, List.append_assoc, ih (m / 128) (by omega) _ (by omega), List.singleton_append, rd_cons]
   have hx : (UInt8.ofNat (m % 128 + 128)).toNat = m % 128 + 128 := ofNat_toNat (by omega)
   rw [hx, if_neg, if_neg (by omega), if_neg (by omega)]
   ·have e : m / 128 * 128 + (m % 128 + 128) % 128 = m := by omega
    rw [e, ← hp, hlen]
   ·rintro ⟨h1, h2⟩
    have : m / 128 = 0 := by
     by_cases hq : m / 128 = 0
     ·exact hq
     ·have := hi_pos hq
      rw [this] at h1
      simp at h1
    omega
theorem hi_len8 {n : Nat} (h : n < 9223372036854775808) : (hi (n / 128)).length ≤ 8 := hi_length (n / 128) 8 (by omega)
theorem readNum_digits {n : Nat} (h : n < 9223372036854775808) (r : List UInt8) : readNum (digits n ++ r) = (n, (digits n).length, 0) := by
 have h8 := hi_len8 h
 unfold readNum digits
 rw [List.append_assoc, rd_hi _ _ (by omega), List.singleton_append, rd_cons]
 have hx : (UInt8.ofNat (n % 128)).toNat = n % 128 := ofNat_toNat (by omega)
 rw [hx, if_neg (by omega), if_neg (by omega), if_pos (by omega)]
 have e : n / 128 * 128 + n % 128 % 128 = n := by omega
 rw [e]
 simp
end Go.Proofs.YtionbmlicmibgaaGreatDoor
namespace Go.Proofs.YtionbmlicmibgaaGreatDoor
set_option linter.unusedVariables false
set_option linter.unusedSimpArgs false
structure Sp where
 t : Int
 i : Int
 p : Int
 s : Int
 e : Int
 n : ByteArray
deriving DecidableEq
instance : Inhabited Sp := ⟨⟨0, 0, 0, 0, 0, ByteArray.empty⟩⟩
def Sp.nl (x : Sp) : List UInt8 := x.n.data.toList
def okByte (c : UInt8) : Bool := decide (33 ≤ c.toNat) && decide (c.toNat ≤ 126)
def okName (l : List UInt8) : Bool := decide (1 ≤ l.length) && decide (l.length ≤ 32) && l.all okByte
def okStand (x : Sp) : Bool := decide (1 ≤ x.t) && decide (x.t ≤ 1099511627776) && (decide (1 ≤ x.i) && decide (x.i ≤ 1099511627776)) && (decide (0 ≤ x.p) && decide (x.p ≤ 1099511627776)) && !decide (x.p = x.i)
def okTake (x : Sp) : Bool := decide (0 ≤ x.s) && decide (x.s ≤ x.e) && decide (x.e ≤ 1099511627776)
def Sp.ok (x : Sp) : Bool := okStand x && okTake x && okName x.nl
structure Sp.Ok (x : Sp) : Prop where
 t1 : 1 ≤ x.t
 t2 : x.t ≤ 1099511627776
 i1 : 1 ≤ x.i
 i2 : x.i ≤ 1099511627776
 p1 : 0 ≤ x.p
 p2 : x.p ≤ 1099511627776
 s1 : 0 ≤ x.s
 s2 : x.s ≤ x.e
 e2 : x.e ≤ 1099511627776
 ne : x.p ≠ x.i
 n1 : 1 ≤ x.nl.length
 n2 : x.nl.length ≤ 32
 n3 : x.nl.all okByte = true
theorem Sp.ok_iff (x : Sp) : x.ok = true ↔ x.Ok := by
 unfold Sp.ok okStand okTake okName
 simp only [Bool.and_eq_true, decide_eq_true_eq, Bool.not_eq_true', decide_eq_false_iff_not]
 constructor
 ·rintro ⟨⟨⟨⟨⟨⟨a, b⟩, c, d⟩, e, f⟩, g⟩, ⟨h, i⟩, j⟩, ⟨k, l⟩, m⟩
  exact ⟨a, b, c, d, e, f, h, i, j, g, k, l, m⟩
 ·rintro ⟨a, b, c, d, e, f, h, i, j, g, k, l, m⟩
  exact ⟨⟨⟨⟨⟨⟨a, b⟩, c, d⟩, e, f⟩, g⟩, ⟨h, i⟩, j⟩, ⟨k, l⟩, m⟩
def Sp.bytes (x : Sp) : List UInt8 := digits x.t.toNat ++ (digits x.i.toNat ++ (digits x.p.toNat ++ (digits x.s.toNat ++ (digits (x.e - x.s).toNat ++ (digits x.nl.length ++ x.nl)))))
def encL (l : List Sp) : List UInt8 := digits l.length ++ (l.map Sp.bytes).flatten
theorem rd_bad0 : ∀ (l : List UInt8) (i z : Nat) {n k e : Nat}, rd l i z = (n, k, e) → e ≠ 0 → n = 0
 | [], i, z, n, k, e, h, he => by simp only [rd, Prod.mk.injEq] at h; omega
 | x :: r, i, z, n, k, e, h, he => by
  rw [rd_cons] at h
  split at h
  ·simp only [Prod.mk.injEq] at h; omega
  ·split at h
   ·simp only [Prod.mk.injEq] at h; omega
   ·split at h
    ·simp only [Prod.mk.injEq] at h; omega
    ·exact rd_bad0 r _ _ h he
def nx (l : List UInt8) (st : Nat × Nat) : Nat × Nat × Nat :=
 if st.2 ≠ 0 then (0, st.1, st.2) else ((readNum (l.drop st.1)).1, st.1 + (readNum (l.drop st.1)).2.1, (readNum (l.drop st.1)).2.2)
theorem nx_form {l : List UInt8} {st : Nat × Nat} {n a : Nat} (h : nx l st = (n, a, 0)) (hl : st.1 ≤ l.length) : st.2 = 0 ∧ st.1 ≤ a ∧ a ≤ l.length ∧ l.drop st.1 = digits n ++ l.drop a ∧ n < 9223372036854775808 := by
 unfold nx at h
 split at h
 ·rename_i h0
  simp only [Prod.mk.injEq] at h
  exact absurd h.2.2 h0
 ·rename_i h0
  simp only [Prod.mk.injEq] at h
  obtain ⟨h1, h2, h3⟩ := h
  obtain ⟨n', k, e', hR⟩ : ∃ n k e, readNum (l.drop st.1) = (n, k, e) := ⟨_, _, _, rfl⟩
  rw [hR] at h1 h2 h3
  dsimp only at h1 h2 h3
  subst h1 h3
  obtain ⟨g1, g2, g3, g4⟩ := readNum_form hR
  rw [List.length_drop] at g1
  refine ⟨by omega, by omega, by omega, ?_, Nat.lt_of_lt_of_le g4 (Nat.le_trans (Nat.pow_le_pow_right (by decide) g2) (by decide))⟩
  rw [← g3, ← h2, ← List.drop_drop, List.take_append_drop]
theorem nx_digits {l : List UInt8} {a n : Nat} {r : List UInt8} (hn : n < 9223372036854775808) (h : l.drop a = digits n ++ r) : nx l (a, 0) = (n, a + (digits n).length, 0) := by
 unfold nx
 rw [if_neg (by simp), h, readNum_digits hn]
theorem drop_more {l : List UInt8} {a : Nat} {x r : List UInt8} (h : l.drop a = x ++ r) : l.drop (a + x.length) = r := by
 rw [← List.drop_drop, h, List.drop_left]
def tx (l : List UInt8) (most : Nat) (st : Nat × Nat) : List UInt8 × Nat × Nat :=
 if st.2 ≠ 0 then ([], st.1, st.2)
 else if (readNum (l.drop st.1)).2.2 ≠ 0 then ([], st.1, (readNum (l.drop st.1)).2.2)
 else if most < (readNum (l.drop st.1)).1 then ([], st.1, 4)
 else if l.length < st.1 + (readNum (l.drop st.1)).2.1 + (readNum (l.drop st.1)).1 then ([], st.1, 2)
 else ((l.drop (st.1 + (readNum (l.drop st.1)).2.1)).take (readNum (l.drop st.1)).1, st.1 + (readNum (l.drop st.1)).2.1 + (readNum (l.drop st.1)).1, 0)
theorem tx_bad {l : List UInt8} {most : Nat} {st : Nat × Nat} {x : List UInt8} {a e : Nat} (h : tx l most st = (x, a, e)) (he : e ≠ 0) : x = [] := by
 unfold tx at h
 split at h
 ·simp only [Prod.mk.injEq] at h; exact h.1.symm
 ·split at h
  ·simp only [Prod.mk.injEq] at h; exact h.1.symm
  ·split at h
   ·simp only [Prod.mk.injEq] at h; exact h.1.symm
   ·split at h
    ·simp only [Prod.mk.injEq] at h; exact h.1.symm
    ·simp only [Prod.mk.injEq] at h; exact absurd h.2.2.symm he
theorem tx_form {l : List UInt8} {most : Nat} {st : Nat × Nat} {x : List UInt8} {a : Nat} (h : tx l most st = (x, a, 0)) (hl : st.1 ≤ l.length) : st.2 = 0 ∧ st.1 ≤ a ∧ a ≤ l.length ∧ l.drop st.1 = digits x.length ++ (x ++ l.drop a) ∧ x.length ≤ most := by
 unfold tx at h
 split at h
 ·rename_i h0
  simp only [Prod.mk.injEq] at h; exact absurd h.2.2 h0
 ·rename_i h0
  obtain ⟨n, k, e, hR⟩ : ∃ n k e, readNum (l.drop st.1) = (n, k, e) := ⟨_, _, _, rfl⟩
  rw [hR] at h
  dsimp only at h
  split at h
  ·rename_i h1
   simp only [Prod.mk.injEq] at h; exact absurd h.2.2 h1
  ·rename_i h1
   have he : e = 0 := by omega
   subst he
   split at h
   ·simp at h
   ·rename_i h2
    split at h
    ·simp at h
    ·rename_i h3
     simp only [Prod.mk.injEq, and_true] at h
     obtain ⟨hx, ha⟩ := h
     obtain ⟨g1, g2, g3, g4⟩ := readNum_form hR
     rw [List.length_drop] at g1
     have hxl : x.length = n := by rw [← hx, List.length_take, List.length_drop]; omega
     refine ⟨by omega, by omega, by omega, ?_, by omega⟩
     have q1 : l.drop a = ((l.drop st.1).drop k).drop n := by rw [List.drop_drop, List.drop_drop, ← ha, Nat.add_assoc]
     have q2 : l.drop (st.1 + k) = (l.drop st.1).drop k := by rw [List.drop_drop]
     rw [hxl, ← hx, q2, q1, ← g3, List.take_append_drop, List.take_append_drop]
theorem tx_digits {l : List UInt8} {most a : Nat} {x r : List UInt8} (hx : x.length ≤ most) (hm : most < 1000) (ha : a ≤ l.length) (h : l.drop a = digits x.length ++ (x ++ r)) : tx l most (a, 0) = (x, a + (digits x.length).length + x.length, 0) := by
 have hl := congrArg List.length h
 rw [List.length_drop, List.length_append, List.length_append] at hl
 unfold tx
 rw [if_neg (by simp)]
 dsimp only
 rw [h, readNum_digits (by omega)]
 dsimp only
 rw [if_neg (by simp), if_neg (by omega), if_neg (by omega), drop_more h, List.take_left]
def sumW (a b : Nat) : Int := IntKind.i64.wrap ((a : Int) + (b : Int))
def nextS (l : List UInt8) (st : Nat × Nat) : Sp × Nat × Nat :=
 let r1 := nx l st
 let r2 := nx l r1.2
 let r3 := nx l r2.2
 let r4 := nx l r3.2
 let r5 := nx l r4.2
 let r6 := tx l 32 r5.2
 (⟨r1.1, r2.1, r3.1, r4.1, sumW r4.1 r5.1, ⟨r6.1.toArray⟩⟩, r6.2)
theorem sumW_big {a b : Nat} (ha : a < 9223372036854775808) (hb : b < 9223372036854775808) (h : 9223372036854775808 ≤ a + b) : sumW a b < (a : Int) := by
 unfold sumW
 rw [IntKind.wrap_i64]
 omega
theorem sumW_small {a b : Nat} (h : a + b < 9223372036854775808) : sumW a b = (a : Int) + (b : Int) := by
 unfold sumW
 rw [IntKind.wrap_i64]
 omega
theorem nl_mk (x : List UInt8) (a b c d e : Int) : Sp.nl ⟨a, b, c, d, e, ⟨x.toArray⟩⟩ = x := by simp [Sp.nl]
theorem nextS_form {l : List UInt8} {a : Nat} {x : Sp} {st : Nat × Nat} (h : nextS l (a, 0) = (x, st)) (hl : a ≤ l.length) (hx : x.ok = true) :
  st.2 = 0 ∧ a < st.1 ∧ st.1 ≤ l.length ∧ l.drop a = x.bytes ++ l.drop st.1 := by
 rw [Sp.ok_iff] at hx
 unfold nextS at h
 obtain ⟨n1, a1, e1, h1⟩ : ∃ n a' e, nx l (a, 0) = (n, a', e) := ⟨_, _, _, rfl⟩
 rw [h1] at h; dsimp only at h
 obtain ⟨n2, a2, e2, h2⟩ : ∃ n a e, nx l (a1, e1) = (n, a, e) := ⟨_, _, _, rfl⟩
 rw [h2] at h; dsimp only at h
 obtain ⟨n3, a3, e3, h3⟩ : ∃ n a e, nx l (a2, e2) = (n, a, e) := ⟨_, _, _, rfl⟩
 rw [h3] at h; dsimp only at h
 obtain ⟨n4, a4, e4, h4⟩ : ∃ n a e, nx l (a3, e3) = (n, a, e) := ⟨_, _, _, rfl⟩
 rw [h4] at h; dsimp only at h
 obtain ⟨n5, a5, e5, h5⟩ : ∃ n a e, nx l (a4, e4) = (n, a, e) := ⟨_, _, _, rfl⟩
 rw [h5] at h; dsimp only at h
 obtain ⟨x6, a6, e6, h6⟩ : ∃ n a e, tx l 32 (a5, e5) = (n, a, e) := ⟨_, _, _, rfl⟩
 rw [h6] at h; dsimp only at h
 simp only [Prod.mk.injEq] at h
 obtain ⟨rfl, rfl⟩ := h
 have hn1 := hx.n1
 rw [nl_mk] at hn1
 have E6 : e6 = 0 := by
  by_cases he : e6 = 0
  ·exact he
  ·rw [tx_bad h6 he] at hn1
   simp at hn1
 subst E6
 have hb5 : a5 ≤ l.length → e5 = 0 ∧ _ := fun q => tx_form h6 q
 have E5 : e5 = 0 := by
  by_cases he : e5 = 0
  ·exact he
  ·exfalso
   unfold tx at h6
   rw [if_pos he] at h6
   simp only [Prod.mk.injEq] at h6
   exact he h6.2.2
 subst E5
 have E4 : e4 = 0 := by
  by_cases he : e4 = 0
  ·exact he
  ·exfalso
   unfold nx at h5
   rw [if_pos he] at h5
   simp only [Prod.mk.injEq] at h5
   exact he h5.2.2
 subst E4
 have E3 : e3 = 0 := by
  by_cases he : e3 = 0
  ·exact he
  ·exfalso
   unfold nx at h4
   rw [if_pos he] at h4
   simp only [Prod.mk.injEq] at h4
   exact he h4.2.2
 subst E3
 have E2 : e2 = 0 := by
  by_cases he : e2 = 0
  ·exact he
  ·exfalso
   unfold nx at h3
   rw [if_pos he] at h3
   simp only [Prod.mk.injEq] at h3
   exact he h3.2.2
 subst E2
 have E1 : e1 = 0 := by
  by_cases he : e1 = 0
  ·exact he
  ·exfalso
   unfold nx at h2
   rw [if_pos he] at h2
   simp only [Prod.mk.injEq] at h2
   exact he h2.2.2
 subst E1
 obtain ⟨-, b1, c1, d1, l1⟩ := nx_form h1 hl
 obtain ⟨-, b2, c2, d2, l2⟩ := nx_form h2 c1
 obtain ⟨-, b3, c3, d3, l3⟩ := nx_form h3 c2
 obtain ⟨-, b4, c4, d4, l4⟩ := nx_form h4 c3
 obtain ⟨-, b5, c5, d5, l5⟩ := nx_form h5 c4
 obtain ⟨-, b6, c6, d6, l6⟩ := tx_form h6 c5
 dsimp only at *
 have hs2 : (n4 : Int) ≤ sumW n4 n5 := hx.s2
 have hlt : n4 + n5 < 9223372036854775808 := by
  by_cases hh : n4 + n5 < 9223372036854775808
  ·exact hh
  ·have := sumW_big l4 l5 (by omega)
   omega
 have hs := sumW_small hlt
 refine ⟨rfl, ?_, c6, ?_⟩
 ·have e6 := congrArg List.length d6
  rw [List.length_drop, List.length_append, List.length_append, List.length_drop] at e6
  omega
 ·unfold Sp.bytes
  rw [nl_mk]
  dsimp only
  rw [hs, show ((n4 : Int) + (n5 : Int) - (n4 : Int)).toNat = n5 by omega, Int.toNat_natCast, Int.toNat_natCast, Int.toNat_natCast, Int.toNat_natCast]
  rw [d1, d2, d3, d4, d5, d6]
  simp only [List.append_assoc]
theorem nextS_bytes {l : List UInt8} {a : Nat} {x : Sp} {r : List UInt8} (hl : a ≤ l.length) (hx : x.ok = true) (h : l.drop a = x.bytes ++ r) : nextS l (a, 0) = (x, a + x.bytes.length, 0) := by
 rw [Sp.ok_iff] at hx
 have hx' := hx
 obtain ⟨t1, t2, i1, i2, p1, p2, s1, s2, e2, ne, n1, n2, n3⟩ := hx'
 have hlen := congrArg List.length h
 rw [List.length_drop, List.length_append] at hlen
 unfold Sp.bytes at h
 simp only [List.append_assoc] at h
 have h1 := nx_digits (by omega) h
 have g1 := drop_more h
 have h2 := nx_digits (by omega) g1
 have g2 := drop_more g1
 have h3 := nx_digits (by omega) g2
 have g3 := drop_more g2
 have h4 := nx_digits (by omega) g3
 have g4 := drop_more g3
 have h5 := nx_digits (by omega) g4
 have g5 := drop_more g4
 have hbl : x.bytes.length = (digits x.t.toNat).length + ((digits x.i.toNat).length + ((digits x.p.toNat).length + ((digits x.s.toNat).length + ((digits (x.e - x.s).toNat).length + ((digits x.nl.length).length + x.nl.length))))) := by
  unfold Sp.bytes
  simp only [List.length_append]
 have h6 := tx_digits (most := 32) n2 (by omega) (by omega) g5
 unfold nextS
 rw [h1]; dsimp only
 rw [h2]; dsimp only
 rw [h3]; dsimp only
 rw [h4]; dsimp only
 rw [h5]; dsimp only
 rw [h6]; dsimp only
 rw [sumW_small (by omega)]
 have q1 : ((x.t.toNat : Nat) : Int) = x.t := by omega
 have q2 : ((x.i.toNat : Nat) : Int) = x.i := by omega
 have q3 : ((x.p.toNat : Nat) : Int) = x.p := by omega
 have q4 : ((x.s.toNat : Nat) : Int) = x.s := by omega
 have q5 : x.s + (((x.e - x.s).toNat : Nat) : Int) = x.e := by omega
 have q6 : (⟨x.nl.toArray⟩ : ByteArray) = x.n := by simp [Sp.nl]
 rw [q1, q2, q3, q4, q5, q6]
 simp only [Prod.mk.injEq, and_true]
 refine ⟨trivial, ?_⟩
 rw [hbl]
 omega
def getG (l : List UInt8) : Nat → Nat × Nat → Option (List Sp × Nat × Nat)
 | 0, st => some ([], st)
 | k + 1, st => if (nextS l st).1.ok then (getG l k (nextS l st).2).map fun r => ((nextS l st).1 :: r.1, r.2) else none
def getP (l : List UInt8) : List Sp × Nat :=
 match getG l (nx l (0, 0)).1 (nx l (0, 0)).2 with
 | none => ([], 30)
 | some (r, a, e) => if e = 0 ∧ a = l.length then (r, 0) else ([], 30)
theorem getG_bad {l : List UInt8} : ∀ {k : Nat} {a e : Nat} {r : List Sp} {st : Nat × Nat}, e ≠ 0 → getG l k (a, e) = some (r, st) → st.2 ≠ 0
 | 0, a, e, r, st, he, h => by
  simp only [getG, Option.some.injEq, Prod.mk.injEq] at h
  rw [← h.2]
  exact he
 | k + 1, a, e, r, st, he, h => by
  exfalso
  rw [getG] at h
  split at h
  ·rename_i hok
   rw [Sp.ok_iff] at hok
   have hn := hok.t1
   have hz : (nextS l (a, e)).1.t = 0 := by
    unfold nextS nx
    dsimp only
    rw [if_pos he]
    rfl
   omega
  ·cases h
theorem getG_form {l : List UInt8} : ∀ {k a : Nat} {r : List Sp} {st : Nat × Nat}, a ≤ l.length → getG l k (a, 0) = some (r, st) → st.2 = 0 ∧ a ≤ st.1 ∧ st.1 ≤ l.length ∧ r.length = k ∧ (∀ x ∈ r, Sp.ok x = true) ∧ l.drop a = (r.map Sp.bytes).flatten ++ l.drop st.1
 | 0, a, r, st, ha, h => by
  simp only [getG, Option.some.injEq, Prod.mk.injEq] at h
  obtain ⟨rfl, rfl⟩ := h
  exact ⟨rfl, Nat.le_refl _, ha, rfl, (fun x hx => by cases hx), by simp⟩
 | k + 1, a, r, st, ha, h => by
  rw [getG] at h
  obtain ⟨x, a1, e1, hN⟩ : ∃ x a1 e1, nextS l (a, 0) = (x, a1, e1) := ⟨_, _, _, rfl⟩
  rw [hN] at h
  dsimp only at h
  split at h
  ·rename_i hok
   obtain ⟨E, b, c, d⟩ := nextS_form hN ha hok
   dsimp only at E b c d
   subst E
   cases hg : getG l k (a1, 0) with
   | none => rw [hg] at h; cases h
   | some q =>
    rw [hg] at h
    simp only [Option.map_some, Option.some.injEq, Prod.mk.injEq] at h
    obtain ⟨rfl, rfl⟩ := h
    obtain ⟨f1, f2, f3, f4, f5, f6⟩ := getG_form (r := q.1) (st := q.2) c hg
    refine ⟨f1, by omega, f3, by simp [f4], ?_, ?_⟩
    ·intro y hy
     rcases List.mem_cons.1 hy with rfl | hy
     ·exact hok
     ·exact f5 y hy
    ·rw [d, f6]
     simp
  ·cases h
theorem getG_bytes {l : List UInt8} : ∀ (r : List Sp) {a : Nat} {z : List UInt8}, a ≤ l.length → (∀ x ∈ r, Sp.ok x = true) → l.drop a = (r.map Sp.bytes).flatten ++ z → getG l r.length (a, 0) = some (r, a + (r.map Sp.bytes).flatten.length, 0)
 | [], a, z, _, _, _ => rfl
 | x :: r, a, z, ha, hok, h => by
  have hx := hok x (by simp)
  rw [List.map_cons, List.flatten_cons, List.append_assoc] at h
  have hlen := congrArg List.length h
  rw [List.length_drop, List.length_append, List.length_append] at hlen
  have hN := nextS_bytes ha hx h
  rw [List.length_cons, getG, hN]
  dsimp only
  rw [if_pos hx, getG_bytes r (by omega) (fun y hy => hok y (by simp [hy])) (drop_more h)]
  simp [Nat.add_assoc]
def GetIs (l : List UInt8) (r : List Sp) (e : Nat) : Prop := (e = 0 ∧ (∀ x ∈ r, Sp.ok x = true) ∧ encL r = l) ∨ (e = 30 ∧ r = [] ∧ ∀ m : List Sp, m.length < 9223372036854775808 → (∀ x ∈ m, Sp.ok x = true) → encL m ≠ l)
theorem getP_enc (m : List Sp) (hm : m.length < 9223372036854775808) (hok : ∀ x ∈ m, Sp.ok x = true) : getP (encL m) = (m, 0) := by
 have h0 : (encL m).drop 0 = digits m.length ++ (m.map Sp.bytes).flatten := rfl
 have h1 := nx_digits hm h0
 have g1 := drop_more h0
 have hl : (encL m).length = (digits m.length).length + (m.map Sp.bytes).flatten.length := by unfold encL; rw [List.length_append]
 unfold getP
 rw [h1]
 dsimp only
 rw [getG_bytes m (z := []) (by omega) hok (by rw [g1, List.append_nil])]
 dsimp only
 rw [if_pos ⟨rfl, by omega⟩]
theorem getP_is (l : List UInt8) : GetIs l (getP l).1 (getP l).2 := by
 have hno : getP l = ([], 30) → GetIs l (getP l).1 (getP l).2 := by
  intro h
  rw [h]
  refine .inr ⟨rfl, rfl, fun m hm hok e => ?_⟩
  rw [← e, getP_enc m hm hok] at h
  simp at h
 obtain ⟨n, a, e, hN⟩ : ∃ n a e, nx l (0, 0) = (n, a, e) := ⟨_, _, _, rfl⟩
 cases hg : getG l n (a, e) with
 | none =>
  apply hno
  unfold getP
  rw [hN]
  dsimp only
  rw [hg]
 | some q =>
  obtain ⟨r, a', e'⟩ := q
  by_cases hc : e' = 0 ∧ a' = l.length
  ·have hP : getP l = (r, 0) := by
    unfold getP
    rw [hN]
    dsimp only
    rw [hg]
    dsimp only
    rw [if_pos hc]
   rw [hP]
   obtain ⟨rfl, rfl⟩ := hc
   have he : e = 0 := by
    by_cases he : e = 0
    ·exact he
    ·exact absurd rfl (getG_bad he hg)
   subst he
   obtain ⟨-, -, c, d, hlt⟩ := nx_form hN (Nat.zero_le _)
   dsimp only at c d
   obtain ⟨-, -, -, g4, g5, g6⟩ := getG_form c hg
   refine .inl ⟨rfl, g5, ?_⟩
   unfold encL
   rw [g4]
   rw [List.drop_zero] at d
   rw [List.drop_length, List.append_nil] at g6
   rw [d, g6]
  ·apply hno
   unfold getP
   rw [hN]
   dsimp only
   rw [hg]
   dsimp only
   rw [if_neg hc]
end Go.Proofs.YtionbmlicmibgaaGreatDoor
namespace Go.Proofs.YtionbmlicmibgaaGreatDoor
set_option linter.unusedVariables false
set_option linter.unusedSimpArgs false
open Go.RowKit
set_option maxRecDepth 200000 in
set_option maxHeartbeats 400000 in
theorem left_any {w : World} {g : Nat} {p : Option Addr} {n c at_ : Nat} (hc0 : w.cell? ⟨g, 0, none⟩ = some (.slice p n c)) (hc1 : w.cell? ⟨g, 1, none⟩ = some (.int .i64 (at_ : Int))) (hat : at_ ≤ n) (hn : (n : Int) ≤ 9223372036854775807) :
  Calls Tryz.prog 177 #[.pointer (some ⟨g, 0, none⟩)] w fun e w' => e = .returned (.int .i64 ((n : Int) - (at_ : Int))) ∧ ∃ q, w' = w.drewN q := by
 go_enter Tryz.func177, Tryz.ntmps177
 go_wp2
 go_quiet (fail)
 go_wp2
 go_ret
 exact ⟨rfl, _, rfl⟩
def str (l : List UInt8) : ByteArray := strOfNums (Lib.numsL l)
theorem str_eq (l : List UInt8) : str l = ⟨l.toArray⟩ := by
 show (⟨(Lib.bytesOf (Lib.numsL l)).toArray⟩ : ByteArray) = _
 rw [Lib.bytesOf_numsL]
theorem str_beq (a b : List UInt8) : ((str a).toList == (str b).toList) = decide (a = b) := by
 rw [← beq_toListBytes, Bool.eq_iff_iff, str_eq, str_eq, decide_eq_true_eq]
 show (a.toArray == b.toArray) = true ↔ a = b
 simp
theorem conv_by {w : World} {p : Option Addr} {n c : Nat} {l : List UInt8} (h : By w (.slice p n c) l) (q : Nat) : (convert 32 9 (.slice p n c)).run Tryz.prog (w.drewN q) = .ok (.string (str l)) (w.drewN q) := by
 have h' : By (w.drewN q) (.slice p n c) l := h
 obtain ⟨b, hl⟩ := h'.bytesIn
 exact b.convert hl c 32 5 9 Tryz.underlying32 Tryz.underlying5 Tryz.underlying9
theorem By.grown {w w' : World} {v : Value} {l : List UInt8} {row : Option Nat} (h : By w v l) (hg : w.grownBy w' row) (hne : l = [] ∨ ∀ k, v.ownBlock = some k → row ≠ some k) : By w' v l := by
 obtain ⟨p, cap, rfl, hl, hm, hn, hc⟩ := h
 refine ⟨p, cap, rfl, hl, hm, hn, fun a e i x hx => ?_⟩
 rcases hne with rfl | hne
 ·simp at hx
 ·subst e
  refine hg.cell (hc a rfl i x hx) ?_
  rw [block_add]
  exact fun e => hne a.block rfl e.symm
def scanC (v : Value) (at_ E : Nat) : Array Value := #[v, .int .i64 (at_ : Int), .int .i64 (E : Int), .bool true]
def Sc (w : World) (g : Nat) (v : Value) (at_ E : Nat) : Prop := w.heap[g]? = some (.cells (scanC v at_ E) 165 (0, 0))
theorem Sc.c0 {w : World} {g : Nat} {v : Value} {at_ E : Nat} (h : Sc w g v at_ E) : w.cell? ⟨g, 0, none⟩ = some v := by rw [cell_of_row w g 0 _ 165 (0, 0) h]; rfl
theorem Sc.c1 {w : World} {g : Nat} {v : Value} {at_ E : Nat} (h : Sc w g v at_ E) : w.cell? ⟨g, 1, none⟩ = some (.int .i64 (at_ : Int)) := by rw [cell_of_row w g 1 _ 165 (0, 0) h]; rfl
theorem Sc.c2 {w : World} {g : Nat} {v : Value} {at_ E : Nat} (h : Sc w g v at_ E) : w.cell? ⟨g, 2, none⟩ = some (.int .i64 (E : Int)) := by rw [cell_of_row w g 2 _ 165 (0, 0) h]; rfl
theorem Sc.c3 {w : World} {g : Nat} {v : Value} {at_ E : Nat} (h : Sc w g v at_ E) : w.cell? ⟨g, 3, none⟩ = some (.bool true) := by rw [cell_of_row w g 3 _ 165 (0, 0) h]; rfl
theorem Sc.fr {w : World} {g : Nat} {v : Value} {at_ E : Nat} (h : Sc w g v at_ E) (i : Nat) : w.frozen? ⟨g, i, none⟩ = false := frozen_of_row w g i _ 165 h
theorem Sc.lt {w : World} {g : Nat} {v : Value} {at_ E : Nat} (h : Sc w g v at_ E) : g < w.heap.size := lt_of_cell h.c0
theorem Sc.set1 {w : World} {g : Nat} {v : Value} {at_ E : Nat} (h : Sc w g v at_ E) {x : Int} {k : Nat} (e : x = (k : Int)) : Sc (w.setCell ⟨g, 1, none⟩ (.int .i64 x)) g v k E := by
 have := heap_setCell_same w g 1 _ 165 (.int .i64 x) h
 unfold Sc
 rw [this, e]
 rfl
theorem Sc.set2 {w : World} {g : Nat} {v : Value} {at_ E : Nat} (h : Sc w g v at_ E) {x : Int} {k : Nat} (e : x = (k : Int)) : Sc (w.setCell ⟨g, 2, none⟩ (.int .i64 x)) g v at_ k := by
 have := heap_setCell_same w g 2 _ 165 (.int .i64 x) h
 unfold Sc
 rw [this, e]
 rfl
theorem grown_set (w : World) (g i : Nat) (x : Value) : w.grownBy (w.setCell ⟨g, i, none⟩ x) (some g) :=
 ⟨rfl, rfl, rfl, by simp [World.setCell], fun j _ hj => heap_setCell_other w ⟨g, i, none⟩ j _ (fun e => hj (by rw [e]))⟩
def ScPost (w : World) (g : Nat) (v : Value) (at_ E : Nat) (r : Value) (e : Ending) (w' : World) : Prop := e = .returned r ∧ Sc w' g v at_ E ∧ w.grownBy w' (some g)
theorem rd_bad : ∀ (l : List UInt8) (i z : Nat) {n k e : Nat}, rd l i z = (n, k, e) → e ≠ 0 → n = 0 ∧ k = 0
 | [], i, z, n, k, e, h, he => by simp only [rd, Prod.mk.injEq] at h; omega
 | x :: r, i, z, n, k, e, h, he => by
  rw [rd_cons] at h
  split at h
  ·simp only [Prod.mk.injEq] at h; omega
  ·split at h
   ·simp only [Prod.mk.injEq] at h; omega
   ·split at h
    ·simp only [Prod.mk.injEq] at h; omega
    ·exact rd_bad r _ _ h he
theorem readNum_bad {l : List UInt8} {n k e : Nat} (h : readNum l = (n, k, e)) (he : e ≠ 0) : n = 0 ∧ k = 0 := rd_bad l 0 0 h he
theorem readNum_any {l : List UInt8} {n k e : Nat} (h : readNum l = (n, k, e)) : k ≤ l.length ∧ n < 9223372036854775808 ∧ k ≤ 9 := by
 by_cases he : e = 0
 ·subst he
  obtain ⟨h1, h2, _, h4⟩ := readNum_form h
  refine ⟨h1, Nat.lt_of_lt_of_le h4 ?_, h2⟩
  exact Nat.le_trans (Nat.pow_le_pow_right (by decide) h2) (by decide)
 ·obtain ⟨rfl, rfl⟩ := readNum_bad h he
  exact ⟨Nat.zero_le _, by decide, by omega⟩
def textB (l : List UInt8) (at_ most N K E : Nat) : List UInt8 × Nat × Nat :=
 if E ≠ 0 then ([], at_, E) else if most < N then ([], at_, 4) else if l.length < at_ + K + N then ([], at_, 2) else ((l.drop (at_ + K)).take N, at_ + K + N, 0)
def textP (l : List UInt8) (at_ most : Nat) : List UInt8 × Nat × Nat := textB l at_ most (readNum (l.drop at_)).1 (readNum (l.drop at_)).2.1 (readNum (l.drop at_)).2.2
set_option maxRecDepth 200000 in
set_option maxHeartbeats 400000 in
theorem err_any {w : World} {g : Nat} {E : Nat} (h2 : w.cell? ⟨g, 2, none⟩ = some (.int .i64 (E : Int))) (h3 : w.cell? ⟨g, 3, none⟩ = some (.bool true)) :
  Calls Tryz.prog 141 #[.pointer (some ⟨g, 0, none⟩)] w fun e w' => e = .returned (.int .i64 (E : Int)) ∧ w = w' := by
 go_enter Tryz.func141, Tryz.ntmps141
 go_wp2
 go_ret
 exact ⟨rfl, rfl⟩
theorem str_nil : str [] = ByteArray.empty := rfl
theorem conv_at {w : World} {p : Option Addr} {n c : Nat} {l : List UInt8} (h : By w (.slice p n c) l) : (convert 32 9 (.slice p n c)).run Tryz.prog w = .ok (.string (str l)) w := conv_by h 0
theorem quiet_same {f : FuncId} {args : Array Value} {w : World} {n : Nat} {v : Value}
  (h : Calls Tryz.prog f args (w.drewN n) fun e w' => e = .returned v ∧ w.drewN n = w') : Calls Tryz.prog f args (w.drewN n) fun e w'' => e = .returned v ∧ ∃ m, w'' = w.drewN m :=
 h.mono fun _ _ ⟨he, hm⟩ => ⟨he, n, hm.symm⟩
theorem Own.notNew {B : Nat} {w : World} {v : Value} {l : List UInt8} (h : Own B w v l) : l = [] ∨ ∀ k, v.ownBlock = some k → some w.heap.size ≠ some k := by
 rcases h with ⟨_, rfl⟩ | ⟨g, cap, rfl, _, _, _, hc, _⟩
 ·exact .inl rfl
 ·cases l with
  | nil => exact .inl rfl
  | cons x r =>
   refine .inr fun k hk e => ?_
   simp only [Value.ownBlock, Option.some.injEq] at hk
   injection e with e
   subst hk
   have := lt_of_cell (hc 0 x rfl)
   simp only at this
   omega
theorem gtrans {a b c : World} {row : Option Nat} (h : a.grownBy b row) (h' : b.grownBy c row) : a.grownBy c row :=
 ⟨h'.os.trans h.os, h'.tape.trans h.tape, h'.output.trans h.output, Nat.le_trans h.size h'.size, fun k hk hr => (h'.block k (Nat.lt_of_lt_of_le hk h.size) hr).trans (h.block k hk hr)⟩
set_option maxRecDepth 200000 in
set_option maxHeartbeats 1100000 in
theorem stext_any {w : World} {g : Nat} {p : Option Addr} {n c at_ : Nat} {l : List UInt8} (hS : Sc w g (.slice p n c) at_ 0) (hby : By w (.slice p n c) l) (hne : l = [] ∨ ∀ k, (Value.slice p n c).ownBlock = some k → some g ≠ some k) (hat : at_ ≤ n)
  (most : Int) (M : Nat) (hM : max most 0 = (M : Int)) {T : List UInt8} {A E : Nat} (hT : textP l at_ M = (T, A, E)) :
  Calls Tryz.prog 178 #[.pointer (some ⟨g, 0, none⟩), .int .i64 most] w (ScPost w g (.slice p n c) A 0 (.tuple #[.string (str T), .int .i64 E])) := by
 obtain ⟨N, K, e0, hR⟩ : ∃ N K e0, readNum (l.drop at_) = (N, K, e0) := ⟨_, _, _, rfl⟩
 unfold textP at hT
 rw [hR] at hT
 dsimp only at hT
 have hmm := hby.lenMax
 have hn := hby.len.1
 obtain ⟨hK, hN, hK9⟩ := readNum_any hR
 rw [List.length_drop, ← hn] at hK
 have hKn : at_ + K ≤ n := by omega
 have hc0 := hS.c0
 have hc1 := hS.c1
 have HT := hide hT
 have HS := hide hS
 have HBY := hide hby
 have HNE := hide hne
 have HN := hide hn
 have HR := hide hR
 clear hT hS hby hne hn hR hK
 go_enter Tryz.func178, Tryz.ntmps178
 go_wp2_with fail
 refine (number_any HS.out rfl rfl HBY.out hat HR.out).mono ?_
 rintro e w1 ⟨rfl, hh, hg⟩
 obtain ⟨a1, ha1⟩ : ∃ a1, at_ + K = a1 := ⟨_, rfl⟩
 have S1 : Sc w1 g (.slice p n c) a1 0 := by rw [← ha1]; exact hh
 rw [ha1] at hKn
 have B1 := HBY.out.grown hg HNE.out
 have d0 := S1.c0
 have d1 := S1.c1
 have f1 := S1.fr 1
 have G1 := hide hg
 have HS1 := hide S1
 have HB1 := hide B1
 clear hh hg S1 B1 hc0 hc1
 by_cases he : e0 ≠ 0
 ·have g1 : ((e0 : Int) != 0) = true := by simp; omega
  have ht := HT.out
  unfold textB at ht
  rw [if_pos he] at ht
  simp only [Prod.mk.injEq] at ht
  obtain ⟨rfl, rfl, rfl⟩ := ht
  clear he HT
  go_wp2
  go_ret2
  exact ⟨by rw [str_nil]; rfl, HS1.out.set1 rfl, gtrans G1.out (grown_set _ _ _ _)⟩
 ·obtain rfl : e0 = 0 := by omega
  by_cases hbig : M < N
  ·have ht := HT.out
   unfold textB at ht
   rw [if_neg he, if_pos hbig] at ht
   simp only [Prod.mk.injEq] at ht
   obtain ⟨rfl, rfl, rfl⟩ := ht
   clear he HT
   have g4 : max most 0 < (N : Int) := by omega
   go_wp2_with fail
   go_ret2
   exact ⟨by rw [str_nil]; rfl, HS1.out.set1 rfl, gtrans G1.out (grown_set _ _ _ _)⟩
  ·have g4 : ¬ max most 0 < (N : Int) := by omega
   have N9 : (N : Int) ≤ 9223372036854775807 := by omega
   have hKi : (a1 : Int) ≤ (n : Int) := by omega
   go_wp2_with fail
   refine (left_any d0 d1 hKn hmm).mono ?_
   rintro e w2 ⟨rfl, q, rfl⟩
   have HS2 : Hid (Sc (w1.drewN q) g (Value.slice p n c) a1 0) := HS1
   have G2 : Hid (w.grownBy (w1.drewN q) (some g)) := hide (grown_drewN G1.out q)
   by_cases hlen : (n : Int) - (a1 : Int) < (N : Int)
   ·have ht := HT.out
    unfold textB at ht
    rw [if_neg he, if_neg hbig, if_pos (by have := HN.out; omega)] at ht
    simp only [Prod.mk.injEq] at ht
    obtain ⟨rfl, rfl, rfl⟩ := ht
    clear he HT
    go_wp2_with fail
    go_ret2
    exact ⟨by rw [str_nil]; rfl, HS2.out.set1 rfl, gtrans G2.out (grown_set _ _ _ _)⟩
   ·have ht := HT.out
    unfold textB at ht
    rw [if_neg he, if_neg hbig, if_neg (by have := HN.out; omega)] at ht
    simp only [Prod.mk.injEq] at ht
    obtain ⟨rfl, rfl, rfl⟩ := ht
    clear he HT
    have hsum : (a1 : Int) + (N : Int) ≤ 9223372036854775807 := by omega
    have hsum' : (a1 : Int) + (N : Int) ≤ (n : Int) := by omega
    have ha9 : (a1 : Int) ≤ 9223372036854775807 := by omega
    have haw : IntKind.i64.wrap (a1 : Int) = (a1 : Int) := by rw [IntKind.wrap_i64]; omega
    have B3 := (HB1.out.drewN q).grown (grown_set (w1.drewN q) g 1 (.int .i64 ((a1 : Int) + (N : Int)))) HNE.out
    obtain ⟨q3, hcutM, hM3⟩ := cut_mid (j := a1) (k := a1 + N) B3 (by omega) (by omega)
    obtain ⟨m3, hm3⟩ : ∃ m3, a1 + N - a1 = m3 := ⟨_, rfl⟩
    obtain ⟨d3, hd3⟩ : ∃ d3, c - a1 = d3 := ⟨_, rfl⟩
    rw [hm3, hd3] at hM3
    simp only [hm3, hd3] at hcutM
    have e1 : ((a1 + N : Nat) : Int) = (a1 : Int) + (N : Int) := by omega
    rw [e1] at hcutM
    have e2 : (l.take (a1 + N)).drop a1 = (l.drop a1).take N := by
     rw [List.drop_take, show a1 + N - a1 = N by omega]
    rw [e2] at hM3
    have hconv := fun q => conv_by hM3 q
    have hconv0 := conv_at hM3
    have S3 := HS2.out.set1 (x := (a1 : Int) + (N : Int)) (k := a1 + N) e1.symm
    have G3 := gtrans G2.out (grown_set (w1.drewN q) g 1 (.int .i64 ((a1 : Int) + (N : Int))))
    have HS3 := hide S3
    have HG3 := hide G3
    have HA1 := hide ha1
    clear S3 G3 hm3 hd3 e1 e2 B3 HB1 HBY hM3 ha1 HS2 G2 HS1 G1 hat hKi
    go_wp2_with fail
    go_quiet (fail)
    go_wp2
    go_ret2
    exact ⟨by rw [HA1.out]; rfl, by rw [HA1.out]; exact HS3.out, grown_drewN HG3.out _⟩
set_option maxRecDepth 200000 in
set_option maxHeartbeats 400000 in
theorem scanNumber_any {w : World} {g : Nat} {p : Option Addr} {n c at_ E0 : Nat} {l : List UInt8} (hS : Sc w g (.slice p n c) at_ E0) (hby : By w (.slice p n c) l) (hat : at_ ≤ n)
  {N A E : Nat} (hT : (if E0 ≠ 0 then (0, at_, E0) else ((readNum (l.drop at_)).1, at_ + (readNum (l.drop at_)).2.1, (readNum (l.drop at_)).2.2)) = (N, A, E)) :
  Calls Tryz.prog 105 #[.pointer (some ⟨g, 0, none⟩)] w (ScPost w g (.slice p n c) A E (.int .i64 N)) := by
 have h2 := hS.c2
 have h3 := hS.c3
 have HS := hide hS
 have HBY := hide hby
 have HT := hide hT
 clear hS hby hT
 by_cases h0 : E0 ≠ 0
 ·have g1 : ((E0 : Int) != 0) = true := by simp; omega
  have ht := HT.out
  rw [if_pos h0] at ht
  simp only [Prod.mk.injEq] at ht
  obtain ⟨rfl, rfl, rfl⟩ := ht
  clear HT h0
  go_enter Tryz.func105, Tryz.ntmps105
  go_wp2_with fail
  refine (err_any h2 h3).mono ?_
  rintro e w1 ⟨rfl, rfl⟩
  go_wp2
  go_ret
  exact ⟨rfl, HS.out, World.grownBy.refl _ _⟩
 ·obtain rfl : E0 = 0 := by omega
  have ht := HT.out
  rw [if_neg h0] at ht
  obtain ⟨N', K, e0, hR⟩ : ∃ N K e0, readNum (l.drop at_) = (N, K, e0) := ⟨_, _, _, rfl⟩
  rw [hR] at ht
  simp only [Prod.mk.injEq] at ht
  obtain ⟨rfl, rfl, rfl⟩ := ht
  have HR := hide hR
  clear HT h0 hR
  go_enter Tryz.func105, Tryz.ntmps105
  go_wp2_with fail
  refine (err_any h2 h3).mono ?_
  rintro e w1 ⟨rfl, rfl⟩
  go_wp2_with fail
  refine (number_any HS.out rfl rfl HBY.out hat HR.out).mono ?_
  rintro e w1 ⟨rfl, hh, hg⟩
  have S1 : Sc w1 g (.slice p n c) (at_ + K) 0 := hh
  have d2 := S1.c2
  have f2 := S1.fr 2
  have G1 := hide hg
  have HS1 := hide S1
  clear hh hg S1 h2 h3
  go_wp2
  go_ret
  exact ⟨rfl, HS1.out.set2 rfl, gtrans G1.out (grown_set _ _ _ _)⟩
set_option maxRecDepth 200000 in
set_option maxHeartbeats 400000 in
theorem scanText_any {w : World} {g : Nat} {p : Option Addr} {n c at_ E0 : Nat} {l : List UInt8} (hS : Sc w g (.slice p n c) at_ E0) (hby : By w (.slice p n c) l) (hne : l = [] ∨ ∀ k, (Value.slice p n c).ownBlock = some k → some g ≠ some k) (hat : at_ ≤ n)
  (most : Int) (M : Nat) (hM : max most 0 = (M : Int)) {T : List UInt8} {A E : Nat} (hT : (if E0 ≠ 0 then ([], at_, E0) else textP l at_ M) = (T, A, E)) :
  Calls Tryz.prog 145 #[.pointer (some ⟨g, 0, none⟩), .int .i64 most] w (ScPost w g (.slice p n c) A E (.string (str T))) := by
 have h2 := hS.c2
 have h3 := hS.c3
 have HS := hide hS
 have HBY := hide hby
 have HT := hide hT
 clear hS hby hT
 by_cases h0 : E0 ≠ 0
 ·have g1 : ((E0 : Int) != 0) = true := by simp; omega
  have ht := HT.out
  rw [if_pos h0] at ht
  simp only [Prod.mk.injEq] at ht
  obtain ⟨rfl, rfl, rfl⟩ := ht
  clear HT h0
  go_enter Tryz.func145, Tryz.ntmps145
  go_wp2_with fail
  refine (err_any h2 h3).mono ?_
  rintro e w1 ⟨rfl, rfl⟩
  go_wp2
  go_ret
  exact ⟨rfl, HS.out, World.grownBy.refl _ _⟩
 ·obtain rfl : E0 = 0 := by omega
  have ht := HT.out
  rw [if_neg h0] at ht
  have HT' := hide ht
  clear HT h0 ht
  go_enter Tryz.func145, Tryz.ntmps145
  go_wp2_with fail
  refine (err_any h2 h3).mono ?_
  rintro e w1 ⟨rfl, rfl⟩
  go_wp2_with fail
  refine (stext_any HS.out HBY.out hne hat most M hM HT'.out).mono ?_
  rintro e w1 ⟨rfl, S1, hg⟩
  have d2 := S1.c2
  have f2 := S1.fr 2
  have G1 := hide hg
  have HS1 := hide S1
  clear hg S1 h2 h3
  go_wp2
  go_ret
  exact ⟨rfl, HS1.out.set2 rfl, gtrans G1.out (grown_set _ _ _ _)⟩
def endE (at_ n E : Nat) : Nat := if E ≠ 0 then E else if at_ < n then 3 else 0
set_option maxRecDepth 200000 in
set_option maxHeartbeats 400000 in
theorem scanEnd_any {w : World} {g : Nat} {p : Option Addr} {n c at_ E0 : Nat} (hS : Sc w g (.slice p n c) at_ E0) (hat : at_ ≤ n) (hn : (n : Int) ≤ 9223372036854775807) {E : Nat} (hE : endE at_ n E0 = E) :
  Calls Tryz.prog 144 #[.pointer (some ⟨g, 0, none⟩)] w (ScPost w g (.slice p n c) at_ E (.int .i64 E)) := by
 have h0 := hS.c0
 have h1 := hS.c1
 have h2 := hS.c2
 have h3 := hS.c3
 have f2 := hS.fr 2
 have HS := hide hS
 have HE := hide hE
 clear hS hE
 by_cases he : E0 ≠ 0
 ·have g1 : ((E0 : Int) != 0) = true := by simp; omega
  have hE := HE.out
  unfold endE at hE
  rw [if_pos he] at hE
  subst hE
  clear HE he
  go_enter Tryz.func144, Tryz.ntmps144
  go_wp2_with fail
  refine (err_any h2 h3).mono ?_
  rintro e w1 ⟨rfl, rfl⟩
  go_wp2
  go_ret
  exact ⟨rfl, HS.out, World.grownBy.refl _ _⟩
 ·obtain rfl : E0 = 0 := by omega
  have hE := HE.out
  unfold endE at hE
  rw [if_neg he] at hE
  by_cases hm : at_ < n
  ·rw [if_pos hm] at hE
   subst hE
   clear HE he
   have g2 : (0 : Int) < (n : Int) - (at_ : Int) := by omega
   go_enter Tryz.func144, Tryz.ntmps144
   go_wp2_with fail
   refine (err_any h2 h3).mono ?_
   rintro e w1 ⟨rfl, rfl⟩
   go_wp2_with fail
   refine (left_any h0 h1 hat hn).mono ?_
   rintro e w1 ⟨rfl, q, rfl⟩
   have HS1 : Hid (Sc (w.drewN q) g (.slice p n c) at_ 0) := HS
   go_wp2
   go_ret
   exact ⟨rfl, HS1.out.set2 rfl, gtrans (grown_drewN (World.grownBy.refl _ _) _) (grown_set _ _ _ _)⟩
  ·rw [if_neg hm] at hE
   subst hE
   clear HE he
   have g2 : ¬ (0 : Int) < (n : Int) - (at_ : Int) := by omega
   go_enter Tryz.func144, Tryz.ntmps144
   go_wp2_with fail
   refine (err_any h2 h3).mono ?_
   rintro e w1 ⟨rfl, rfl⟩
   go_wp2_with fail
   refine (left_any h0 h1 hat hn).mono ?_
   rintro e w1 ⟨rfl, q, rfl⟩
   have HS1 : Hid (Sc (w.drewN q) g (.slice p n c) at_ 0) := HS
   go_wp2
   go_ret
   exact ⟨rfl, HS1.out, grown_drewN (World.grownBy.refl _ _) _⟩
set_option maxRecDepth 200000 in
set_option maxHeartbeats 400000 in
theorem over_any {w : World} {v : Value} {l : List UInt8} (hv : By w v l) (hl : l.length ≤ 140737488355328) :
  Calls Tryz.prog 69 #[v] w fun e w' => ∃ (g : Nat) (u : Value), e = .returned (.pointer (some ⟨g, 0, none⟩)) ∧ w.heap.size ≤ g ∧ Sc w' g u 0 0 ∧ Own w.heap.size w' u l ∧ (l = [] ∨ ∀ k, u.ownBlock = some k → some g ≠ some k) ∧ Below w.heap.size w w' := by
 obtain ⟨p, n, c, rfl⟩ := hv.sl
 have HV := hide hv
 clear hv
 go_enter Tryz.func69, Tryz.ntmps69
 go_wp2_with fail
 refine (clone_any HV.out hl).mono ?_
 rintro e w1 ⟨v1, rfl, ho, hb⟩
 obtain ⟨p1, n1, c1, rfl⟩ := ho.by_.sl
 have HO := hide ho
 have HB := hide hb
 clear ho hb
 go_wp2
 go_ret
 exact ⟨w1.heap.size, _, rfl, HB.out.size, heap_alloc_new _ _, HO.out.below ((Below.refl _ _).alloc (Nat.le_refl _) _), HO.out.notNew, HB.out.alloc HB.out.size _⟩
def refC (v : Value) (at_ E : Nat) : Array Value := #[v, .int .i64 (at_ : Int), .int .i64 (E : Int)]
def Sr (w : World) (g : Nat) (v : Value) (at_ E : Nat) : Prop := w.heap[g]? = some (.cells (refC v at_ E) 121 (0, 0))
theorem Sr.c0 {w : World} {g : Nat} {v : Value} {at_ E : Nat} (h : Sr w g v at_ E) : w.cell? ⟨g, 0, none⟩ = some v := by rw [cell_of_row w g 0 _ 121 (0, 0) h]; rfl
theorem Sr.c1 {w : World} {g : Nat} {v : Value} {at_ E : Nat} (h : Sr w g v at_ E) : w.cell? ⟨g, 1, none⟩ = some (.int .i64 (at_ : Int)) := by rw [cell_of_row w g 1 _ 121 (0, 0) h]; rfl
theorem Sr.c2 {w : World} {g : Nat} {v : Value} {at_ E : Nat} (h : Sr w g v at_ E) : w.cell? ⟨g, 2, none⟩ = some (.int .i64 (E : Int)) := by rw [cell_of_row w g 2 _ 121 (0, 0) h]; rfl
theorem Sr.fr {w : World} {g : Nat} {v : Value} {at_ E : Nat} (h : Sr w g v at_ E) (i : Nat) : w.frozen? ⟨g, i, none⟩ = false := frozen_of_row w g i _ 121 h
theorem Sr.lt {w : World} {g : Nat} {v : Value} {at_ E : Nat} (h : Sr w g v at_ E) : g < w.heap.size := lt_of_cell h.c0
theorem Sr.set1 {w : World} {g : Nat} {v : Value} {at_ E : Nat} (h : Sr w g v at_ E) {x : Int} {k : Nat} (e : x = (k : Int)) : Sr (w.setCell ⟨g, 1, none⟩ (.int .i64 x)) g v k E := by
 have := heap_setCell_same w g 1 _ 121 (.int .i64 x) h
 unfold Sr
 rw [this, e]
 rfl
theorem Sr.set2 {w : World} {g : Nat} {v : Value} {at_ E : Nat} (h : Sr w g v at_ E) {x : Int} {k : Nat} (e : x = (k : Int)) : Sr (w.setCell ⟨g, 2, none⟩ (.int .i64 x)) g v at_ k := by
 have := heap_setCell_same w g 2 _ 121 (.int .i64 x) h
 unfold Sr
 rw [this, e]
 rfl
def SrPost (w : World) (g : Nat) (v : Value) (at_ E : Nat) (r : Value) (e : Ending) (w' : World) : Prop := e = .returned r ∧ Sr w' g v at_ E ∧ w.grownBy w' (some g)
set_option maxRecDepth 200000 in
set_option maxHeartbeats 1100000 in
theorem refScanNumber_any {w : World} {g : Nat} {p : Option Addr} {n c at_ E0 : Nat} {l : List UInt8} (hS : Sr w g (.slice p n c) at_ E0) (hby : By w (.slice p n c) l) (hat : at_ ≤ n)
  {N A E : Nat} (hT : (if E0 ≠ 0 then (0, at_, E0) else ((readNum (l.drop at_)).1, at_ + (readNum (l.drop at_)).2.1, (readNum (l.drop at_)).2.2)) = (N, A, E)) :
  Calls Tryz.prog 70 #[.pointer (some ⟨g, 0, none⟩)] w (SrPost w g (.slice p n c) A E (.int .i64 N)) := by
 have h0 := hS.c0
 have h1 := hS.c1
 have h2 := hS.c2
 have hmm := hby.lenMax
 have hn := hby.len.1
 have HS := hide hS
 have HBY := hide hby
 have HT := hide hT
 have HN := hide hn
 clear hS hby hT hn
 by_cases he : E0 ≠ 0
 ·have g1 : ((E0 : Int) != 0) = true := by simp; omega
  have ht := HT.out
  rw [if_pos he] at ht
  simp only [Prod.mk.injEq] at ht
  obtain ⟨rfl, rfl, rfl⟩ := ht
  clear HT he
  go_enter Tryz.func70, Tryz.ntmps70
  go_wp2
  go_ret
  exact ⟨rfl, HS.out, World.grownBy.refl _ _⟩
 ·obtain rfl : E0 = 0 := by omega
  have ht := HT.out
  rw [if_neg he] at ht
  obtain ⟨N', K, e0, hR⟩ : ∃ N K e0, readNum (l.drop at_) = (N, K, e0) := ⟨_, _, _, rfl⟩
  rw [hR] at ht
  simp only [Prod.mk.injEq] at ht
  obtain ⟨rfl, rfl, rfl⟩ := ht
  have hk := readNum_any hR
  rw [List.length_drop, ← HN.out] at hk
  have hsum : (at_ : Int) + (K : Int) ≤ 9223372036854775807 := by omega
  have hat' : (at_ : Int) ≤ (n : Int) := by omega
  obtain ⟨q, hcut, hF⟩ := cut_from HBY.out hat
  obtain ⟨m1, hm1⟩ : ∃ m1, n - at_ = m1 := ⟨_, rfl⟩
  obtain ⟨d1, hd1⟩ : ∃ d1, c - at_ = d1 := ⟨_, rfl⟩
  rw [hm1, hd1] at hF
  simp only [hm1, hd1] at hcut
  have HR := hide hR
  have HF := hide hF
  have f1 := HS.out.fr 1
  have f2 := HS.out.fr 2
  clear HT he hR hm1 hd1 hF hk
  go_enter Tryz.func70, Tryz.ntmps70
  go_wp2_with fail
  go_quiet ((go_at_call 110; refine quiet_same (refRead_any (HF.out.drewN _) HR.out)))
  have HS1 : Hid (Sr (w.drewN nq) g (.slice p n c) at_ 0) := HS
  go_wp2
  go_ret
  exact ⟨rfl, (HS1.out.set1 (by omega)).set2 rfl, gtrans (grown_drewN (World.grownBy.refl _ _) _) (gtrans (grown_set _ _ _ _) (grown_set _ _ _ _))⟩
set_option maxRecDepth 200000 in
set_option maxHeartbeats 1100000 in
theorem refScanText_any {w : World} {g : Nat} {p : Option Addr} {n c at_ E0 : Nat} {l : List UInt8} (hS : Sr w g (.slice p n c) at_ E0) (hby : By w (.slice p n c) l) (hne : l = [] ∨ ∀ k, (Value.slice p n c).ownBlock = some k → some g ≠ some k) (hat : at_ ≤ n)
  (most : Int) (M : Nat) (hM : max most 0 = (M : Int)) {T : List UInt8} {A E : Nat} (hT : (if E0 ≠ 0 then ([], at_, E0) else textP l at_ M) = (T, A, E)) :
  Calls Tryz.prog 72 #[.pointer (some ⟨g, 0, none⟩), .int .i64 most] w (SrPost w g (.slice p n c) A E (.string (str T))) := by
 have h0 := hS.c0
 have h1 := hS.c1
 have h2 := hS.c2
 have hmm := hby.lenMax
 have hn := hby.len.1
 have HS := hide hS
 have HBY := hide hby
 have HNE := hide hne
 have HT := hide hT
 have HN := hide hn
 clear hS hby hT hn hne
 by_cases he : E0 ≠ 0
 ·have g1 : ((E0 : Int) != 0) = true := by simp; omega
  have ht := HT.out
  rw [if_pos he] at ht
  simp only [Prod.mk.injEq] at ht
  obtain ⟨rfl, rfl, rfl⟩ := ht
  clear HT he
  go_enter Tryz.func72, Tryz.ntmps72
  go_wp2
  go_ret
  exact ⟨rfl, HS.out, World.grownBy.refl _ _⟩
 ·obtain rfl : E0 = 0 := by omega
  have ht := HT.out
  rw [if_neg he] at ht
  obtain ⟨N, K, e0, hR⟩ : ∃ N K e0, readNum (l.drop at_) = (N, K, e0) := ⟨_, _, _, rfl⟩
  unfold textP at ht
  rw [hR] at ht
  dsimp only at ht
  have hk := readNum_any hR
  rw [List.length_drop, ← HN.out] at hk
  have hsum : (at_ : Int) + (K : Int) ≤ (n : Int) := by omega
  have hN9 : (N : Int) ≤ 9223372036854775807 := by omega
  have hat' : (at_ : Int) ≤ (n : Int) := by omega
  obtain ⟨q, hcut, hF⟩ := cut_from HBY.out hat
  obtain ⟨m1, hm1⟩ : ∃ m1, n - at_ = m1 := ⟨_, rfl⟩
  obtain ⟨d1, hd1⟩ : ∃ d1, c - at_ = d1 := ⟨_, rfl⟩
  rw [hm1, hd1] at hF
  simp only [hm1, hd1] at hcut
  have HR := hide hR
  have HF := hide hF
  have HT' := hide ht
  have f1 := HS.out.fr 1
  have f2 := HS.out.fr 2
  clear HT he hR hm1 hd1 hF hk ht
  by_cases he0 : e0 ≠ 0
  ·have g1 : ((e0 : Int) != 0) = true := by simp; omega
   have ht := HT'.out
   unfold textB at ht
   rw [if_pos he0] at ht
   simp only [Prod.mk.injEq] at ht
   obtain ⟨rfl, rfl, rfl⟩ := ht
   clear HT' he0
   go_enter Tryz.func72, Tryz.ntmps72
   go_wp2_with fail
   go_quiet ((go_at_call 110; refine quiet_same (refRead_any (HF.out.drewN _) HR.out)))
   have HS1 : Hid (Sr (w.drewN nq) g (.slice p n c) at_ 0) := HS
   go_wp2
   go_ret
   exact ⟨rfl, HS1.out.set2 rfl, gtrans (grown_drewN (World.grownBy.refl _ _) _) (grown_set _ _ _ _)⟩
  ·obtain rfl : e0 = 0 := by omega
   by_cases hbig : M < N
   ·have ht := HT'.out
    unfold textB at ht
    rw [if_neg he0, if_pos hbig] at ht
    simp only [Prod.mk.injEq] at ht
    obtain ⟨rfl, rfl, rfl⟩ := ht
    have g4 : most < (N : Int) := by omega
    have g5 : (0 : Int) < (N : Int) := by omega
    clear HT' he0
    go_enter Tryz.func72, Tryz.ntmps72
    go_wp2_with fail
    go_quiet ((go_at_call 110; refine quiet_same (refRead_any (HF.out.drewN _) HR.out)))
    have HS1 : Hid (Sr (w.drewN nq) g (.slice p n c) at_ 0) := HS
    go_wp2
    go_ret
    exact ⟨rfl, HS1.out.set2 rfl, gtrans (grown_drewN (World.grownBy.refl _ _) _) (grown_set _ _ _ _)⟩
   ·have g4 : ¬ most < (N : Int) ∨ most < (N : Int) ∧ decide ((0 : Int) < (N : Int)) = false := by
     by_cases h : most < (N : Int)
     ·exact .inr ⟨h, decide_eq_false (by omega)⟩
     ·exact .inl h
    clear he0
    by_cases hlen : (n : Int) - (at_ : Int) - (K : Int) < (N : Int)
    ·have ht := HT'.out
     unfold textB at ht
     rw [if_neg (by simp), if_neg hbig, if_pos (by have := HN.out; omega)] at ht
     simp only [Prod.mk.injEq] at ht
     obtain ⟨rfl, rfl, rfl⟩ := ht
     clear HT'
     replace g4 : ¬ most < (N : Int) := by
      rcases g4 with g4 | ⟨g4, g5⟩
      ·exact g4
      ·have := of_decide_eq_false g5
       omega
     all_goals
      go_enter Tryz.func72, Tryz.ntmps72
      go_wp2_with fail
      go_quiet ((go_at_call 110; refine quiet_same (refRead_any (HF.out.drewN _) HR.out)))
      revert nq
      intro q1
      go_wp2_with fail
      go_quiet (fail)
      revert nq
      intro q2
      have HS1 : Hid (Sr (w.drewN (q1 + q2)) g (.slice p n c) at_ 0) := HS
      go_wp2
      go_ret
      exact ⟨rfl, HS1.out.set2 rfl, gtrans (grown_drewN (World.grownBy.refl _ _) _) (grown_set _ _ _ _)⟩
    ·have ht := HT'.out
     unfold textB at ht
     rw [if_neg (by simp), if_neg hbig, if_neg (by have := HN.out; omega)] at ht
     simp only [Prod.mk.injEq] at ht
     obtain ⟨rfl, rfl, rfl⟩ := ht
     clear HT'
     obtain ⟨a2, ha2⟩ : ∃ a2, at_ + K = a2 := ⟨_, rfl⟩
     obtain ⟨a1, ha1⟩ : ∃ a1, at_ + K + N = a1 := ⟨_, rfl⟩
     have e1 : (at_ : Int) + ((K : Int) + (N : Int)) = (a1 : Int) := by omega
     have e2 : (a1 : Int) - (N : Int) = (a2 : Int) := by omega
     have han : (a1 : Int) ≤ (n : Int) := by omega
     have e3 : IntKind.i64.wrap (a2 : Int) = (a2 : Int) := by rw [IntKind.wrap_i64]; omega
     have hb1 : (K : Int) + (N : Int) ≤ 9223372036854775807 := by omega
     have hb2 : (at_ : Int) + ((K : Int) + (N : Int)) ≤ 9223372036854775807 := by omega
     rcases g4 with g4 | ⟨g4, g5⟩
     all_goals
      go_enter Tryz.func72, Tryz.ntmps72
      go_wp2_with fail
      go_quiet ((go_at_call 110; refine quiet_same (refRead_any (HF.out.drewN _) HR.out)))
      revert nq
      intro q1
      go_wp2_with fail
      go_quiet (fail)
      revert nq
      intro q2
      have HS1 : Hid (Sr (w.drewN (q1 + q2)) g (.slice p n c) at_ 0) := HS
      go_wp2_with fail
      have B3 := (HBY.out.drewN (q1 + q2)).grown (grown_set (w.drewN (q1 + q2)) g 1 (.int .i64 (a1 : Int))) HNE.out
      obtain ⟨q3, hcutM, hM3⟩ := cut_mid (j := a2) (k := a1) B3 (by omega) (by omega)
      obtain ⟨m3, hm3⟩ : ∃ m3, a1 - a2 = m3 := ⟨_, rfl⟩
      obtain ⟨d3, hd3⟩ : ∃ d3, c - a2 = d3 := ⟨_, rfl⟩
      rw [hm3, hd3] at hM3
      simp only [hm3, hd3] at hcutM
      rw [show (l.take a1).drop a2 = (l.drop a2).take N by rw [List.drop_take, show a1 - a2 = N by omega]] at hM3
      have hc0 := conv_at hM3
      have hc1 := fun q => conv_by hM3 q
      have HS2 := hide (HS1.out.set1 (x := (a1 : Int)) rfl)
      clear B3 hm3 hd3 hM3 HS1
      go_quiet (fail)
      go_wp2
      go_ret
      refine ⟨by rw [ha2]; rfl, by rw [ha1]; exact HS2.out, grown_drewN (gtrans (grown_drewN (World.grownBy.refl _ _) _) (grown_set _ _ _ _)) _⟩
end Go.Proofs.YtionbmlicmibgaaGreatDoor
