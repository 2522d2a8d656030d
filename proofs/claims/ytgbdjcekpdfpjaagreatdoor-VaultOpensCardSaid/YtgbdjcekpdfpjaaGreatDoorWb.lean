/- Several texts made one. -/
import Derived.Test.YtgbdjcekpdfpjaaGreatDoorWa
import Derived.LoopTactic
import Derived.Laws.ResultCell
import Derived.Deep.RegionHeld3
import Derived.Deep.DrawnRows
import Derived.Laws.StructEq
import Derived.Maps.AppendAt
import Derived.BigGuard
namespace Go.Proofs.YtgbdjcekpdfpjaaGreatDoor
set_option maxRecDepth 200000
set_option maxHeartbeats 400000
open Go.RowKit
def step1 (c : Nat) : Nat := if c < 2147483648 then 2 * c else (2 * c - 4294967296) ^^^ 79764919
def it : Nat → Nat → Nat
 | 0, c => c
 | k + 1, c => step1 (it k c)
def stepB (c : Nat) (x : UInt8) : Nat := it 8 (c ^^^ (x.toNat * 16777216))
def crcF (c : Nat) (l : List UInt8) : Nat := l.foldl stepB c
def crc (l : List UInt8) : Nat := crcF 4294967295 l
theorem step1_lt {c : Nat} (h : c < 4294967296) : step1 c < 4294967296 := by
 unfold step1
 split
 ·omega
 ·exact Nat.xor_lt_two_pow (n := 32) (by omega) (by decide)
theorem it_lt {c : Nat} (h : c < 4294967296) : ∀ k, it k c < 4294967296
 | 0 => h
 | k + 1 => step1_lt (it_lt h k)
theorem start_lt {c : Nat} (h : c < 4294967296) (x : UInt8) : c ^^^ (x.toNat * 16777216) < 4294967296 :=
 Nat.xor_lt_two_pow (n := 32) h (by have := x.toNat_lt; omega)
theorem stepB_lt {c : Nat} (h : c < 4294967296) (x : UInt8) : stepB c x < 4294967296 := it_lt (start_lt h x) 8
theorem crcF_cons (c : Nat) (x : UInt8) (l : List UInt8) : crcF c (x :: l) = crcF (stepB c x) l := by
 unfold crcF
 rw [List.foldl_cons]
theorem crcF_lt {c : Nat} (h : c < 4294967296) (l : List UInt8) : crcF c l < 4294967296 := by
 induction l generalizing c with
 | nil => exact h
 | cons x l ih => rw [crcF_cons]; exact ih (stepB_lt h x)
theorem crc_lt (l : List UInt8) : crc l < 4294967296 := by
 unfold crc
 have h : (4294967295 : Nat) < 4294967296 := by omega
 exact crcF_lt h l
theorem crcF_append (c : Nat) (l m : List UInt8) : crcF c (l ++ m) = crcF (crcF c l) m := by unfold crcF; rw [List.foldl_append]
theorem sumByte_any (c : Nat) (hc : c < 4294967296) (x : UInt8) (w : World) :
  Calls Tryz.prog 166 #[.int .u32 c, .int .u8 (x.toNat : Int)] w fun e w' => e = .returned (.int .u32 (stepB c x : Nat)) ∧ w = w' := by
 have hx := x.toNat_lt
 go_enter Tryz.func166, Tryz.ntmps166
 go_wp2
 have e0 : bits BinOp.xor IntKind.u32 (c : Int) ((x.toNat : Int) * 16777216) = ((c ^^^ (x.toNat * 16777216) : Nat) : Int) := by
  have := u32_xor_nat c (x.toNat * 16777216) hc (by omega)
  rw [← this]
  simp
 rw [e0]
 have hlt := start_lt hc x
 obtain ⟨s, hs⟩ : ∃ s, c ^^^ (x.toNat * 16777216) = s := ⟨_, rfl⟩
 rw [hs] at hlt ⊢
 have HS := hide hs
 clear hs e0
 go_loop [0, 5, 11] (fun a b i => ∃ k v : Nat, k ≤ 8 ∧ i = .int .i64 k ∧ a = .int .u32 v ∧ v < 4294967296 ∧ v = it k s) (fun _ _ i => 8 - (intOf i).toNat)
 case atStart => exact ⟨0, s, by omega, rfl, rfl, hlt, rfl⟩
 case round =>
  obtain ⟨k, v, hk, rfl, rfl, hv, hvk⟩ := hrel
  have HK := hide hvk
  clear hvk
  by_cases hk8 : (k : Int) < 8
  ·by_cases hbit : v < 2147483648
   ·have h1 : ((v : Int) / 2147483648 == 1) = false := by simp; omega
    have hst : step1 v = 2 * v := by unfold step1; rw [if_pos hbit]
    have HST := hide hst
    clear hst
    go_wp2
    go_round
    case rel =>
     refine ⟨k + 1, 2 * v, by omega, by go_num, ?_, by omega, ?_⟩
     ·have : (v : Int) * 2 = ((2 * v : Nat) : Int) := by omega
      rw [this]
     ·rw [← HST.out, HK.out]; rfl
    case measure => simp [intOf]; omega
   ·have h1 : ((v : Int) / 2147483648 == 1) = true := by simp; omega
    have hst : step1 v = (2 * v - 4294967296) ^^^ 79764919 := by unfold step1; rw [if_neg hbit]
    have hlt2 := step1_lt hv
    have e2 : bits BinOp.xor IntKind.u32 ((v : Int) * 2 % 4294967296) 79764919 = ((step1 v : Nat) : Int) := by
     have := u32_xor_nat (2 * v - 4294967296) 79764919 (by omega) (by omega)
     have e3 : (v : Int) * 2 % 4294967296 = ((2 * v - 4294967296 : Nat) : Int) := by omega
     rw [e3, hst, ← this]
     rfl
    have HST := hide hst
    have H2 := hide e2
    clear hst e2
    go_wp2
    go_round
    case rel =>
     refine ⟨k + 1, step1 v, by omega, by go_num, by rw [H2.out], hlt2, ?_⟩
     rw [HK.out]
     rfl
    case measure => simp [intOf]; omega
  ·obtain rfl : k = 8 := by omega
   go_wp2
   go_ret
   have e : v = stepB c x := by rw [HK.out]; unfold stepB; rw [HS.out]
   rw [e]
   exact ⟨rfl, rfl⟩
theorem i64_xor_nat (a b : Nat) (ha : a < 4294967296) (hb : b < 4294967296) : bits .xor .i64 (a : Int) (b : Int) = ((a ^^^ b : Nat) : Int) := by
 have hx : a ^^^ b < 4294967296 := Nat.xor_lt_two_pow (n := 32) ha hb
 show IntKind.i64.wrap ((BitVec.ofInt 64 (a : Int) ^^^ BitVec.ofInt 64 (b : Int)).toNat : Int) = _
 rw [BitVec.toNat_xor, BitVec.ofInt_natCast, BitVec.ofInt_natCast, BitVec.toNat_ofNat, BitVec.toNat_ofNat, Nat.mod_eq_of_lt (by omega), Nat.mod_eq_of_lt (by omega), IntKind.wrap_i64]
 omega
theorem refSum_any {w : World} {v : Value} {l : List UInt8} (hv : By w v l) :
  Calls Tryz.prog 128 #[v] w fun e w' => e = .returned (.int .u32 (crc l : Nat)) ∧ w = w' := by
 obtain ⟨p, n, c, rfl⟩ := hv.sl
 obtain ⟨hn, _⟩ := hv.len
 have hm : n ≤ maxLen := by
  obtain ⟨p', c', e, hl, hm, _⟩ := hv
  injection e with _ e2 e3
  omega
 have hm' : (n : Int) ≤ 9223372036854775807 := by unfold maxLen at hm; omega
 clear hm
 have HV := hide hv
 have HN := hide hn
 clear hv hn
 go_enter Tryz.func128, Tryz.ntmps128
 go_wp2
 go_loop [3, 5, 8, 17] (fun a _ i _ => ∃ k v : Nat, k ≤ n ∧ i = .int .i64 k ∧ a = .int .i64 v ∧ v < 4294967296 ∧ v = crcF 4294967295 (l.take k)) (fun _ _ i _ => n - (intOf i).toNat)
 case atStart => exact ⟨0, 4294967295, by omega, rfl, rfl, by omega, by rw [List.take_zero]; rfl⟩
 case round =>
  obtain ⟨k, v, hk, rfl, rfl, hv, hvk⟩ := hrel
  have HK := hide hvk
  clear hvk
  by_cases hkn : (k : Int) < (n : Int)
  ·obtain ⟨b, o, x, rfl, hx, hcell⟩ := HV.out.cellAt (k := k) (by omega)
   have HX := hide hx
   clear hx
   have hxl := x.toNat_lt
   go_wp2
   have e0 := i64_xor_nat v (x.toNat * 16777216) hv (by omega)
   rw [Int.natCast_mul, show ((16777216 : Nat) : Int) = 16777216 from rfl] at e0
   rw [e0]
   have hlt := start_lt hv x
   obtain ⟨s, hs⟩ : ∃ s, v ^^^ (x.toNat * 16777216) = s := ⟨_, rfl⟩
   rw [hs] at hlt ⊢
   have HS := hide hs
   clear hs e0 hcell hxl
   go_loop [3, 17] (fun a i => ∃ j u : Nat, j ≤ 8 ∧ i = .int .i64 j ∧ a = .int .i64 u ∧ u < 4294967296 ∧ u = it j s) (fun _ i => 8 - (intOf i).toNat)
   case atStart => exact ⟨0, s, by omega, rfl, rfl, hlt, rfl⟩
   case round =>
    obtain ⟨j, u, hj, rfl, rfl, hu, huj⟩ := hrel
    have HU := hide huj
    clear huj
    by_cases hj8 : (j : Int) < 8
    ·by_cases hbit : u < 2147483648
     ·have hst : step1 u = 2 * u := by unfold step1; rw [if_pos hbit]
      have HST := hide hst
      clear hst
      have hdec : decide ((4294967296 : Int) ≤ 2 * (u : Int)) = false := decide_eq_false (by omega)
      go_wp2
      go_round
      case rel =>
       refine ⟨j + 1, 2 * u, by omega, by go_num, by go_num, by omega, ?_⟩
       rw [← HST.out, HU.out]
       rfl
      case measure => simp [intOf]; omega
     ·have hst : step1 u = (2 * u - 4294967296) ^^^ 79764919 := by unfold step1; rw [if_neg hbit]
      have hlt2 := step1_lt hu
      have e2 : bits BinOp.xor IntKind.i64 (2 * (u : Int) - 4294967296) 79764919 = ((step1 u : Nat) : Int) := by
       have := i64_xor_nat (2 * u - 4294967296) 79764919 (by omega) (by omega)
       have e3 : 2 * (u : Int) - 4294967296 = ((2 * u - 4294967296 : Nat) : Int) := by omega
       rw [e3, hst, ← this]
       rfl
      have HST := hide hst
      have H2 := hide e2
      clear hst e2
      have hdec : decide ((4294967296 : Int) ≤ 2 * (u : Int)) = true := decide_eq_true (by omega)
      go_wp2
      go_round
      case rel =>
       refine ⟨j + 1, step1 u, by omega, by go_num, by rw [H2.out], hlt2, ?_⟩
       rw [HU.out]
       rfl
      case measure => simp [intOf]; omega
    ·obtain rfl : j = 8 := by omega
     go_wp2
     go_round
     case rel =>
      refine ⟨k + 1, u, by omega, by go_num, rfl, hu, ?_⟩
      rw [List.take_add_one, HX.out, Option.toList_some, crcF_append, ← HK.out, crcF_cons, HU.out]
      unfold stepB
      rw [HS.out]
      rfl
     case measure => simp [intOf]; omega
  ·obtain rfl : k = n := by omega
   go_wp2
   go_ret
   have e : v = crc l := by
    rw [HK.out, HN.out, List.take_length]
    rfl
   rw [e]
   exact ⟨rfl, rfl⟩
end Go.Proofs.YtgbdjcekpdfpjaaGreatDoor
namespace Go.Proofs.YtgbdjcekpdfpjaaGreatDoor
open Go.RowKit
set_option maxRecDepth 200000 in
set_option maxHeartbeats 1000000 in
theorem wireSum_any {w : World} {v : Value} {ls : List (List UInt8)} (hv : Bss w v ls) :
  Calls Tryz.prog 147 #[v] w fun e w' => e = .returned (.int .u32 (crc ls.flatten : Nat)) ∧ w = w' := by
 obtain ⟨p, n, c, rfl⟩ := hv.sl
 obtain ⟨hn, hm, _⟩ := hv.len
 have hm' : (n : Int) ≤ 9223372036854775807 := by unfold maxLen at hm; omega
 clear hm
 have HV := hide hv
 have HN := hide hn
 clear hv hn
 go_enter Tryz.func147, Tryz.ntmps147
 go_wp2
 go_loop [3, 5, 7, 10, 14, 15, 16] (fun a _ _ i _ _ _ => ∃ k v : Nat, k ≤ n ∧ i = .int .i64 k ∧ a = .int .u32 v ∧ v < 4294967296 ∧ v = crcF 4294967295 (ls.take k).flatten) (fun _ _ _ i _ _ _ => n - (intOf i).toNat)
 case atStart => exact ⟨0, 4294967295, by omega, rfl, rfl, by omega, by rw [List.take_zero]; rfl⟩
 case round =>
  obtain ⟨k, v, hk, rfl, rfl, hv, hvk⟩ := hrel
  have HK := hide hvk
  clear hvk
  by_cases hkn : (k : Int) < (n : Int)
  ·obtain ⟨b, o, q, m, d, l, rfl, hx, hcell, hby⟩ := HV.out.cellAt (k := k) (by omega)
   have hmm := hby.lenMax
   obtain ⟨hml, _⟩ := hby.len
   have HML := hide hml
   have HX := hide hx
   have HBY := hide hby
   clear hx hby hml
   go_wp2
   clear hcell
   go_loop [3, 7, 16] (fun a _ i => ∃ j u : Nat, j ≤ m ∧ i = .int .i64 j ∧ a = .int .u32 u ∧ u < 4294967296 ∧ u = crcF v (l.take j)) (fun _ _ i => m - (intOf i).toNat)
   case atStart => exact ⟨0, v, by omega, rfl, rfl, hv, by rw [List.take_zero]; rfl⟩
   case round =>
    obtain ⟨j, u, hj, rfl, rfl, hu, huj⟩ := hrel
    have HU := hide huj
    clear huj
    by_cases hjm : (j : Int) < (m : Int)
    ·obtain ⟨b2, o2, x, rfl, hxj, hcellj⟩ := HBY.out.cellAt (k := j) (by omega)
     have HXJ := hide hxj
     clear hxj
     go_wp2_with fail
     refine (sumByte_any u hu x _).mono ?_
     rintro e w2 ⟨rfl, rfl⟩
     have hlt := stepB_lt hu x
     obtain ⟨z, hz⟩ : ∃ z, stepB u x = z := ⟨_, rfl⟩
     rw [hz] at hlt ⊢
     have HZ := hide hz
     clear hz hcellj
     go_wp2
     go_round
     case rel =>
      refine ⟨j + 1, z, by omega, by go_num, rfl, hlt, ?_⟩
      rw [List.take_add_one, HXJ.out, Option.toList_some, crcF_append, ← HU.out, crcF_cons, HZ.out]
      rfl
     case measure => simp [intOf]; omega
    ·obtain rfl : j = m := by omega
     go_wp2
     go_round
     case rel =>
      refine ⟨k + 1, u, by omega, by go_num, rfl, hu, ?_⟩
      rw [List.take_add_one, HX.out, Option.toList_some, List.flatten_append, crcF_append, ← HK.out, HU.out, HML.out, List.take_length]
      simp
     case measure => simp [intOf]; omega
  ·obtain rfl : k = n := by omega
   go_wp2
   go_ret
   have e : v = crc ls.flatten := by
    rw [HK.out, HN.out, List.take_length]
    rfl
   rw [e]
   exact ⟨rfl, rfl⟩
end Go.Proofs.YtgbdjcekpdfpjaaGreatDoor
namespace Go.Proofs.YtgbdjcekpdfpjaaGreatDoor
set_option maxRecDepth 20000
set_option maxHeartbeats 400000
open Go.RowKit
def tailL (c : Nat) : List UInt8 := [UInt8.ofNat (c / 16777216), UInt8.ofNat (c / 65536 % 256), UInt8.ofNat (c / 256 % 256), UInt8.ofNat (c % 256)]
def tailB (l : List UInt8) : Value := .agg (l.map bv).toArray
theorem tailOf_any (c : Nat) (hc : c < 4294967296) (w : World) :
  Calls Tryz.prog 146 #[.int .u32 c] w fun e w' => e = .returned (tailB (tailL c)) ∧ Below w.heap.size w w' := by
 go_enter Tryz.func146, Tryz.ntmps146
 go_wp2
 refine wp_loop_rounds 5 ?_
 rw [rounds_succ]
 go_wp2
 rw [rounds_succ]
 go_wp2
 rw [rounds_succ]
 go_wp2
 rw [rounds_succ]
 go_wp2
 rw [rounds_succ]
 go_wp2
 have e1 : (c : Int) / 16777216 = ((UInt8.ofNat (c / 16777216)).toNat : Int) := by simp; omega
 have e2 : (c : Int) / 65536 % 256 = ((UInt8.ofNat (c / 65536 % 256)).toNat : Int) := by simp
 have e3 : (c : Int) / 256 % 256 = ((UInt8.ofNat (c / 256 % 256)).toNat : Int) := by simp
 have e4 : (c : Int) % 256 = ((UInt8.ofNat (c % 256)).toNat : Int) := by simp
 refine bodyPost_ret (v := .agg #[.int .u8 ((c : Int) / 16777216), .int .u8 ((c : Int) / 65536 % 256), .int .u8 ((c : Int) / 256 % 256), .int .u8 ((c : Int) % 256)]) (by simp [results, Tryz.results146, go_sem]) rfl ⟨?_, ((Below.refl _ _).alloc (Nat.le_refl _) _).alloc (by simp) _⟩
 rw [e1, e2, e3, e4]
 rfl
theorem tailAt_any {w : World} {v : Value} {l : List UInt8} (hv : By w v l) (hl : 4 ≤ l.length) :
  Calls Tryz.prog 145 #[v] w fun e w' => e = .returned (tailB (l.take 4)) ∧ Below w.heap.size w w' := by
 obtain ⟨p, n, c, rfl⟩ := hv.sl
 obtain ⟨hn, hc⟩ := hv.len
 obtain ⟨b, o, x0, rfl, h0, c0⟩ := hv.cellAt (k := 0) (by omega)
 obtain ⟨_, _, x1, e1, h1, c1⟩ := hv.cellAt (k := 1) (by omega)
 obtain ⟨_, _, x2, e2, h2, c2⟩ := hv.cellAt (k := 2) (by omega)
 obtain ⟨_, _, x3, e3, h3, c3⟩ := hv.cellAt (k := 3) (by omega)
 injection e1 with e1
 injection e2 with e2
 injection e3 with e3
 injection e1 with e1 e1'
 injection e2 with e2 e2'
 injection e3 with e3 e3'
 subst e1 e1' e2 e2' e3 e3'
 have hn4 : (4 : Int) ≤ (n : Int) := by omega
 have hnn : 4 ≤ n := by omega
 have hmin : ([.int .u8 (x0.toNat : Int), .int .u8 (x1.toNat : Int), .int .u8 (x2.toNat : Int), .int .u8 (x3.toNat : Int)] : List Value).length = Nat.min n 4 := by
  show 4 = min n 4
  omega
 have hr := run_copy_cells (P := Tryz.prog) ((w.alloc (.cells #[.int .u8 0, .int .u8 0, .int .u8 0, .int .u8 0] 189)).alloc (.cells #[.int .u8 0, .int .u8 0, .int .u8 0, .int .u8 0] 189)) 40 40 3 5 (w.heap.size + 1) 0 4 4 ⟨b, o, none⟩ n c
  [.int .u8 (x0.toNat : Int), .int .u8 (x1.toNat : Int), .int .u8 (x2.toNat : Int), .int .u8 (x3.toNat : Int)] Tryz.underlying40 (by kernel_rfl) hmin
  (fun j v hj => by
   rw [add_lit0]
   match j, hj with
   | 0, hj => simp at hj; subst hj; exact Lib.cell?_alloc_some _ (Lib.cell?_alloc_some _ c0)
   | 1, hj => simp at hj; subst hj; exact Lib.cell?_alloc_some _ (Lib.cell?_alloc_some _ c1)
   | 2, hj => simp at hj; subst hj; exact Lib.cell?_alloc_some _ (Lib.cell?_alloc_some _ c2)
   | 3, hj => simp at hj; subst hj; exact Lib.cell?_alloc_some _ (Lib.cell?_alloc_some _ c3))
  (fun j hj => by
   match j, hj with
   | 0, _ => simp
   | 1, _ => simp
   | 2, _ => simp
   | 3, _ => simp)
  (fun j hj => by simp)
  (fun v hv => by simp at hv; rcases hv with rfl | rfl | rfl | rfl <;> rfl)
 simp only [World.setCells, goInt] at hr
 clear hn hv hmin c0 c1 c2 c3
 go_enter Tryz.func145, Tryz.ntmps145
 go_wp2
 have hlt : l.take 4 = [x0, x1, x2, x3] := by
  match l, h0, h1, h2, h3 with
  | a0 :: a1 :: a2 :: a3 :: r, h0, h1, h2, h3 =>
   simp at h0 h1 h2 h3
   subst h0 h1 h2 h3
   rfl
 refine bodyPost_ret (v := .agg #[.int .u8 (x0.toNat : Int), .int .u8 (x1.toNat : Int), .int .u8 (x2.toNat : Int), .int .u8 (x3.toNat : Int)]) (by simp [results, Tryz.results145, go_sem]) rfl ⟨?_, ((Below.refl _ _).alloc (Nat.le_refl _) _).alloc (by simp) _⟩
 rw [hlt]
 rfl
theorem by_block (w : World) (l : List UInt8) (t : TypeId) (m : Nat × Nat) (hl : l.length ≤ 1000) : By (w.alloc (.cells (l.map bv).toArray t m)) (.slice (some ⟨w.heap.size, 0, none⟩) l.length l.length) l := by
 refine ⟨_, _, rfl, Nat.le_refl _, by simp only [maxLen]; omega, (fun e => by cases e), fun a e i x hx => ?_⟩
 injection e with e
 subst e
 rw [add_lit0, Nat.zero_add, World.cell?_alloc_mark]
 simp [hx]
theorem three_parts {w : World} {v u y : Value} {l m k : List UInt8} (h : By w v l) (h2 : By w u m) (h3 : By w y k) : Bss (w.alloc (.cells #[v, u, y] 40)) (.slice (some ⟨w.heap.size, 0, none⟩) 3 3) [l, m, k] :=
 Bss.new (vs := [v, u, y]) rfl (by decide) rfl fun i u m hu hm => by
  match i, hu, hm with
  | 0, hu, hm => simp at hu hm; subst hu hm; exact h
  | 1, hu, hm => simp at hu hm; subst hu hm; exact h2
  | 2, hu, hm => simp at hu hm; subst hu hm; exact h3
def front (l : List UInt8) : List UInt8 := 93 :: digits l.length ++ l
def recL (l : List UInt8) : List UInt8 := front l ++ tailL (crc (front l))
theorem one_lit (w : World) (x : UInt8) (k : Int) (hk : k = (x.toNat : Int)) : By (w.alloc (.cells #[.int .u8 k] 5)) (.slice (some ⟨w.heap.size, 0, none⟩) 1 1) [x] := by
 subst hk
 have := World.ownsRow_lit (e := 5) (size := 1) w #[bv x] 1 (Nat.le_refl _) (by decide) rfl
 exact (Own.of_row (l := [x]) this).by_
theorem wireRecord_any {w : World} {v : Value} {l : List UInt8} (hv : By w v l) (hl : l.length ≤ 65536) :
  Calls Tryz.prog 137 #[v] w fun e w' => ∃ v', e = .returned (.tuple #[v', .int .i64 0]) ∧ Own w.heap.size w' v' (recL l) ∧ Below w.heap.size w w' := by
 obtain ⟨p, n, c, rfl⟩ := hv.sl
 have hn := hv.len.1
 have hn' : ¬ (65536 : Int) < (n : Int) := by omega
 have HV := hide hv
 have HN := hide hn
 clear hn hv
 go_enter Tryz.func137, Tryz.ntmps137
 go_wp2_with fail
 refine (wireNumber_any (one_lit w 93 93 rfl) (by simp) (n : Int) n (by omega) (by unfold lim; omega)).mono ?_
 rintro e w1 ⟨v1, rfl, ho1, hb1⟩
 obtain ⟨p1, n1, c1, rfl⟩ := ho1.by_.sl
 have hb01 : Below w.heap.size w w1 := ((Below.refl _ _).alloc (Nat.le_refl _) _).trans (hb1.mono (by simp))
 have hbs1 := hb01.size
 have hv1 := HV.out.below hb01
 have HP := hide (two_parts ho1.by_ hv1)
 have HO1 := hide ho1
 have HV1 := hide hv1
 clear ho1 hb1 hv1
 go_wp2_with fail
 refine (wireSum_any HP.out).mono ?_
 rintro e w2 ⟨rfl, rfl⟩
 have hfr : [[93] ++ digits n, l].flatten = front l := by
  rw [HN.out]
  simp [front]
 rw [hfr]
 have hlt := crc_lt (front l)
 obtain ⟨S, hS⟩ : ∃ S, crc (front l) = S := ⟨_, rfl⟩
 rw [hS] at hlt ⊢
 have HS := hide hS
 clear hS hfr
 go_wp2_with fail
 refine (tailOf_any S hlt _).mono ?_
 rintro e w3 ⟨rfl, hb3⟩
 obtain ⟨t0, t1, t2, t3, ht⟩ : ∃ t0 t1 t2 t3, tailL S = [t0, t1, t2, t3] := ⟨_, _, _, _, rfl⟩
 have hb13 : Below w1.heap.size w1 w3 := ((Below.refl _ _).alloc (Nat.le_refl _) _).trans (hb3.mono (by simp))
 have hb03 := hb01.trans (hb13.mono hbs1)
 have hs3 := hb03.size
 have htv : tailB (tailL S) = .agg #[.int .u8 (t0.toNat : Int), .int .u8 (t1.toNat : Int), .int .u8 (t2.toNat : Int), .int .u8 (t3.toNat : Int)] := by rw [ht]; rfl
 rw [htv]
 have HT := hide ht
 have HB13 := hide hb13
 have HB03 := hide hb03
 clear ht htv hb3 hb13 hb03
 go_wp2_with fail
 have hT := by_block w3 [t0, t1, t2, t3] 189 (0, 0) (by decide : (4 : Nat) ≤ 1000)
 have hP3 := three_parts ((HO1.out.by_.below HB13.out).alloc (.cells #[.int .u8 (t0.toNat : Int), .int .u8 (t1.toNat : Int), .int .u8 (t2.toNat : Int), .int .u8 (t3.toNat : Int)] 189)) ((HV1.out.below HB13.out).alloc _) hT
 rw [size_alloc'] at hP3
 have hd := digits_length n (by omega)
 refine (join_any hP3 (by have := HN.out; simp [Lib.lens]; omega) (by show 3 ≤ _; omega)).mono ?_
 rintro e w4 ⟨v4, rfl, ho4, hb4⟩
 have hrec : [[93] ++ digits n, l, [t0, t1, t2, t3]].flatten = recL l := by
  unfold recL
  rw [HS.out, HT.out]
  unfold front
  rw [HN.out]
  simp
 rw [hrec] at ho4
 have hb3' : Below w.heap.size w ((w3.alloc (.cells #[.int .u8 (t0.toNat : Int), .int .u8 (t1.toNat : Int), .int .u8 (t2.toNat : Int), .int .u8 (t3.toNat : Int)] 189)).alloc (.cells #[.slice p1 n1 c1, .slice p n c, .slice (some ⟨w3.heap.size, 0, none⟩) 4 4] 40)) :=
  (HB03.out.alloc hs3 _).alloc (by simp; omega) _
 have HR := hide (ho4.mono (show w.heap.size ≤ _ by simp; omega))
 have HE := hide (hb3'.trans (hb4.mono (by simp; omega)))
 clear hT hP3 ho4 hb4 hrec hb3' HP HV HV1 HO1
 go_wp2
 go_ret2
 exact ⟨v4, rfl, HR.out, HE.out⟩
theorem four_lit (w : World) (l : List UInt8) (k0 k1 k2 k3 : Int) (x0 x1 x2 x3 : UInt8) (hl : l = [x0, x1, x2, x3]) (h0 : k0 = (x0.toNat : Int)) (h1 : k1 = (x1.toNat : Int)) (h2 : k2 = (x2.toNat : Int)) (h3 : k3 = (x3.toNat : Int)) :
  By (w.alloc (.cells #[.int .u8 k0, .int .u8 k1, .int .u8 k2, .int .u8 k3] 5)) (.slice (some ⟨w.heap.size, 0, none⟩) 4 4) l := by
 subst hl h0 h1 h2 h3
 exact by_block w [x0, x1, x2, x3] 5 (0, 0) (by decide : (4 : Nat) ≤ 1000)
theorem refRecord_any {w : World} {v : Value} {l : List UInt8} (hv : By w v l) (hl : l.length ≤ 65536) :
  Calls Tryz.prog 103 #[v] w fun e w' => ∃ v', e = .returned (.tuple #[v', .int .i64 0]) ∧ Own w.heap.size w' v' (recL l) ∧ Below w.heap.size w w' := by
 obtain ⟨p, n, c, rfl⟩ := hv.sl
 have hn := hv.len.1
 have hn' : ¬ (65536 : Int) < (n : Int) := by omega
 have hd := digits_length n (by omega)
 have HV := hide hv
 have HN := hide hn
 clear hn hv
 go_enter Tryz.func103, Tryz.ntmps103
 go_wp2_with fail
 refine (refNumber_any (one_lit w 93 93 rfl) (by simp) (n : Int) n (by omega) (by unfold lim; omega)).mono ?_
 rintro e w1 ⟨v1, rfl, hown1, hb1⟩
 have hb01 : Below w.heap.size w w1 := ((Below.refl _ _).alloc (Nat.le_refl _) _).trans (hb1.mono (by simp))
 have hbs1 := hb01.size
 have HR1 := hide (Own.of_row hown1)
 have HV1 := hide (HV.out.below hb01)
 have HB01 := hide hb01
 clear hown1 hb1 hb01
 have hls : ([93] ++ digits n).length + l.length ≤ 140737488355328 := by simp; omega
 go_wp2_with (at_builtin; go_must (refine wpList_append_by rfl _ _ rfl rfl rfl rfl (HR1.out.mono (show w.heap.size ≤ _ by simp)) HV1.out hls hbs1 ?_); intro v2 w2 ho2 _ hb2 _)
 obtain ⟨p2, n2, c2, rfl⟩ := ho2.by_.sl
 have hfr : [93] ++ digits n ++ l = front l := by rw [HN.out]; rfl
 rw [hfr] at ho2
 have hb02 := HB01.out.trans hb2
 have hbs2 := hb02.size
 have HO2 := hide ho2
 have HB02 := hide hb02
 clear ho2 hfr hb02 hb2 hls
 refine (refSum_any HO2.out.by_).mono ?_
 rintro e w3 ⟨rfl, rfl⟩
 have hlt := crc_lt (front l)
 obtain ⟨S, hS⟩ : ∃ S, crc (front l) = S := ⟨_, rfl⟩
 rw [hS] at hlt ⊢
 have HS := hide hS
 clear hS
 have e1 : (S : Int) / 16777216 = ((UInt8.ofNat (S / 16777216)).toNat : Int) := by simp; omega
 have e2 : (S : Int) / 65536 % 256 = ((UInt8.ofNat (S / 65536 % 256)).toNat : Int) := by simp
 have e3 : (S : Int) / 256 % 256 = ((UInt8.ofNat (S / 256 % 256)).toNat : Int) := by simp
 have e4 : (S : Int) % 256 = ((UInt8.ofNat (S % 256)).toNat : Int) := by simp
 have h4 := four_lit w2 (tailL S) _ _ _ _ _ _ _ _ rfl e1 e2 e3 e4
 have hl2 : (front l).length + (tailL S).length ≤ 140737488355328 := by
  have := HN.out
  have := digits_length l.length (by omega)
  simp [front, tailL]
  omega
 have H4 := hide h4
 clear e1 e2 e3 e4 h4
 go_wp2_with (at_builtin; go_must (refine wpList_append_by rfl _ _ rfl rfl rfl rfl (HO2.out.below ((Below.refl _ _).alloc (Nat.le_refl _) _)) H4.out hl2 (by simp; omega) ?_); intro v5 w5 ho5 _ hb5 _)
 go_ret2
 refine ⟨v5, rfl, ?_, (HB02.out.alloc hbs2 _).trans hb5⟩
 unfold recL
 rw [HS.out]
 exact ho5
end Go.Proofs.YtgbdjcekpdfpjaaGreatDoor
namespace Go.Proofs.YtgbdjcekpdfpjaaGreatDoor
def pickB (b r : List UInt8) (n k e : Nat) : List UInt8 × Nat × Nat :=
 if e ≠ 0 then ([], 0, e) else if 65536 < n then ([], 0, 4) else if b.length < 1 + k + n + 4 then ([], 0, 2) else
  if (b.drop (1 + k + n)).take 4 = tailL (crc (b.take (1 + k + n))) then ((r.drop k).take n, 1 + k + n + 4, 0) else ([], 0, 11)
def pickL : List UInt8 → List UInt8 × Nat × Nat
 | [] => ([], 0, 2)
 | x :: r => if x.toNat ≠ 93 then ([], 0, 10) else pickB (x :: r) r (readNum r).1 (readNum r).2.1 (readNum r).2.2
theorem pickL_cons (x : UInt8) (r : List UInt8) : pickL (x :: r) = if x.toNat ≠ 93 then ([], 0, 10) else pickB (x :: r) r (readNum r).1 (readNum r).2.1 (readNum r).2.2 := rfl
theorem tailL_length (c : Nat) : (tailL c).length = 4 := rfl
theorem front_length (l : List UInt8) : (front l).length = 1 + (digits l.length).length + l.length := by
 unfold front
 simp
 omega
theorem rec_parts {r : List UInt8} {n k : Nat} (h : readNum r = (n, k, 0)) (hn : n ≤ r.length - k) :
  ((93 : UInt8) :: r).take (1 + k + n) = front ((r.drop k).take n) ∧ ((r.drop k).take n).length = n := by
 obtain ⟨_, _, h3, _⟩ := readNum_form h
 have hl : ((r.drop k).take n).length = n := by rw [List.length_take, List.length_drop]; omega
 refine ⟨?_, hl⟩
 unfold front
 rw [hl, ← h3, show 1 + k + n = (k + n) + 1 by omega, List.take_succ_cons, List.take_add]
 rfl
theorem u8_93 {x : UInt8} (h : x.toNat = 93) : x = 93 := by
 have := u8_eq (by omega) h
 exact this
theorem pick_ok {b : List UInt8} {p : List UInt8} {k : Nat} (h : pickL b = (p, k, 0)) : k ≤ b.length ∧ b.take k = recL p ∧ p.length ≤ 65536 ∧ k = (recL p).length := by
 cases b with
 | nil => simp [pickL] at h
 | cons x r =>
  rw [pickL_cons] at h
  by_cases hx : x.toNat ≠ 93
  ·rw [if_pos hx] at h
   simp at h
  ·rw [if_neg hx] at h
   have hx' : x = 93 := u8_93 (by omega)
   subst hx'
   obtain ⟨n, kk, e, hr⟩ : ∃ n kk e, readNum r = (n, kk, e) := ⟨_, _, _, rfl⟩
   rw [hr] at h
   dsimp only at h
   unfold pickB at h
   by_cases he : e ≠ 0
   ·rw [if_pos he] at h
    simp only [Prod.mk.injEq] at h
    omega
   ·rw [if_neg he] at h
    have he0 : e = 0 := by omega
    subst he0
    by_cases hbig : 65536 < n
    ·rw [if_pos hbig] at h
     simp at h
    ·rw [if_neg hbig] at h
     by_cases hlen : ((93 : UInt8) :: r).length < 1 + kk + n + 4
     ·rw [if_pos hlen] at h
      simp at h
     ·rw [if_neg hlen] at h
      by_cases ht : (((93 : UInt8) :: r).drop (1 + kk + n)).take 4 = tailL (crc (((93 : UInt8) :: r).take (1 + kk + n)))
      ·rw [if_pos ht] at h
       simp only [Prod.mk.injEq, and_true] at h
       obtain ⟨rfl, rfl⟩ := h
       obtain ⟨hkl, _, _, _⟩ := readNum_form hr
       have hlen' : 1 + kk + n + 4 ≤ r.length + 1 := by rw [List.length_cons] at hlen; omega
       obtain ⟨g1, g2⟩ := rec_parts hr (by omega)
       have e1 : ((93 : UInt8) :: r).take (1 + kk + n + 4) = recL ((r.drop kk).take n) := by
        rw [List.take_add, ht, g1]
        rfl
       refine ⟨by rw [List.length_cons]; omega, e1, by omega, ?_⟩
       rw [← e1, List.length_take, List.length_cons]
       omega
      ·rw [if_neg ht] at h
       simp at h
theorem pick_rec (p : List UInt8) (hp : p.length ≤ 65536) (s : List UInt8) : pickL (recL p ++ s) = (p, (recL p).length, 0) := by
 have hd := digits_length p.length (by omega)
 have e0 : recL p ++ s = (93 : UInt8) :: (digits p.length ++ (p ++ (tailL (crc (front p)) ++ s))) := by
  unfold recL front
  simp
 have hfl := front_length p
 have hrl : (recL p).length = (front p).length + 4 := by unfold recL; rw [List.length_append, tailL_length]
 have eT : ((93 : UInt8) :: (digits p.length ++ (p ++ (tailL (crc (front p)) ++ s)))).take (1 + (digits p.length).length + p.length) = front p := by
  rw [← e0]
  unfold recL
  rw [← hfl, List.append_assoc, List.take_left]
 have eD : (((93 : UInt8) :: (digits p.length ++ (p ++ (tailL (crc (front p)) ++ s)))).drop (1 + (digits p.length).length + p.length)).take 4 = tailL (crc (front p)) := by
  rw [← e0]
  unfold recL
  rw [← hfl, List.append_assoc, List.drop_left, ← tailL_length (crc (front p)), List.take_left]
 have e1 : ((digits p.length ++ (p ++ (tailL (crc (front p)) ++ s))).drop (digits p.length).length).take p.length = p := by
  rw [List.drop_left, List.take_left]
 have hlen : ((93 : UInt8) :: (digits p.length ++ (p ++ (tailL (crc (front p)) ++ s)))).length = (recL p).length + s.length := by
  rw [← e0, List.length_append]
 rw [e0, pickL_cons, if_neg (by decide), readNum_digits (show p.length < 9223372036854775808 by omega)]
 dsimp only
 unfold pickB
 rw [if_neg (by simp), if_neg (by omega), if_neg (by rw [hlen]; omega), eT, eD, if_pos rfl, e1, hrl, hfl]
end Go.Proofs.YtgbdjcekpdfpjaaGreatDoor
namespace Go.Proofs.YtgbdjcekpdfpjaaGreatDoor
set_option maxRecDepth 200000
set_option maxHeartbeats 1000000
open Go.RowKit
theorem left_any {w : World} {g : Nat} {p : Option Addr} {n c at_ : Nat} (hc0 : w.cell? ⟨g, 0, none⟩ = some (.slice p n c)) (hc1 : w.cell? ⟨g, 1, none⟩ = some (.int .i64 (at_ : Int))) (hat : at_ ≤ n) (hn : (n : Int) ≤ 9223372036854775807) :
  Calls Tryz.prog 144 #[.pointer (some ⟨g, 0, none⟩)] w fun e w' => e = .returned (.int .i64 ((n : Int) - (at_ : Int))) ∧ ∃ q, w' = w.drewN q := by
 go_enter Tryz.func144, Tryz.ntmps144
 go_wp2
 go_quiet (fail)
 go_wp2
 go_ret
 exact ⟨rfl, _, rfl⟩
def str (l : List UInt8) : ByteArray := strOfNums (Lib.numsL l)
theorem str_eq (l : List UInt8) : str l = ⟨l.toArray⟩ := by
 show (⟨(Lib.bytesOf (Lib.numsL l)).toArray⟩ : ByteArray) = _
 rw [Lib.bytesOf_numsL]
theorem str_beq (a b : List UInt8) : ((str a).toList == (str b).toList) = decide (a = b) := by
 rw [← beq_toListBytes, Bool.eq_iff_iff, str_eq, str_eq, decide_eq_true_eq]
 show (a.toArray == b.toArray) = true ↔ a = b
 simp
theorem conv_by {w : World} {p : Option Addr} {n c : Nat} {l : List UInt8} (h : By w (.slice p n c) l) (q : Nat) : (convert 40 9 (.slice p n c)).run Tryz.prog (w.drewN q) = .ok (.string (str l)) (w.drewN q) := by
 have h' : By (w.drewN q) (.slice p n c) l := h
 obtain ⟨b, hl⟩ := h'.bytesIn
 exact b.convert hl c 40 5 9 Tryz.underlying40 Tryz.underlying5 Tryz.underlying9
theorem By.grown {w w' : World} {v : Value} {l : List UInt8} {row : Option Nat} (h : By w v l) (hg : w.grownBy w' row) (hne : l = [] ∨ ∀ k, v.ownBlock = some k → row ≠ some k) : By w' v l := by
 obtain ⟨p, cap, rfl, hl, hm, hn, hc⟩ := h
 refine ⟨p, cap, rfl, hl, hm, hn, fun a e i x hx => ?_⟩
 rcases hne with rfl | hne
 ·simp at hx
 ·subst e
  refine hg.cell (hc a rfl i x hx) ?_
  rw [block_add]
  exact fun e => hne a.block rfl e.symm
def scanC (v : Value) (at_ E : Nat) : Array Value := #[v, .int .i64 (at_ : Int), .int .i64 (E : Int), .bool true]
def Sc (w : World) (g : Nat) (v : Value) (at_ E : Nat) : Prop := w.heap[g]? = some (.cells (scanC v at_ E) 194 (0, 0))
theorem Sc.c0 {w : World} {g : Nat} {v : Value} {at_ E : Nat} (h : Sc w g v at_ E) : w.cell? ⟨g, 0, none⟩ = some v := by rw [cell_of_row w g 0 _ 194 (0, 0) h]; rfl
theorem Sc.c2 {w : World} {g : Nat} {v : Value} {at_ E : Nat} (h : Sc w g v at_ E) : w.cell? ⟨g, 2, none⟩ = some (.int .i64 (E : Int)) := by rw [cell_of_row w g 2 _ 194 (0, 0) h]; rfl
theorem Sc.c3 {w : World} {g : Nat} {v : Value} {at_ E : Nat} (h : Sc w g v at_ E) : w.cell? ⟨g, 3, none⟩ = some (.bool true) := by rw [cell_of_row w g 3 _ 194 (0, 0) h]; rfl
theorem Sc.fr {w : World} {g : Nat} {v : Value} {at_ E : Nat} (h : Sc w g v at_ E) (i : Nat) : w.frozen? ⟨g, i, none⟩ = false := frozen_of_row w g i _ 194 h
theorem Sc.lt {w : World} {g : Nat} {v : Value} {at_ E : Nat} (h : Sc w g v at_ E) : g < w.heap.size := lt_of_cell h.c0
theorem Sc.set2 {w : World} {g : Nat} {v : Value} {at_ E : Nat} (h : Sc w g v at_ E) {x : Int} {k : Nat} (e : x = (k : Int)) : Sc (w.setCell ⟨g, 2, none⟩ (.int .i64 x)) g v at_ k := by
 have := heap_setCell_same w g 2 _ 194 (.int .i64 x) h
 unfold Sc
 rw [this, e]
 rfl
theorem grown_set (w : World) (g i : Nat) (x : Value) : w.grownBy (w.setCell ⟨g, i, none⟩ x) (some g) :=
 ⟨rfl, rfl, rfl, by simp [World.setCell], fun j _ hj => heap_setCell_other w ⟨g, i, none⟩ j _ (fun e => hj (by rw [e]))⟩
def ScPost (w : World) (g : Nat) (v : Value) (at_ E : Nat) (r : Value) (e : Ending) (w' : World) : Prop := e = .returned r ∧ Sc w' g v at_ E ∧ w.grownBy w' (some g)
theorem rd_bad : ∀ (l : List UInt8) (i z : Nat) {n k e : Nat}, rd l i z = (n, k, e) → e ≠ 0 → n = 0 ∧ k = 0
 | [], i, z, n, k, e, h, he => by simp only [rd, Prod.mk.injEq] at h; omega
 | x :: r, i, z, n, k, e, h, he => by
  rw [rd_cons] at h
  split at h
  ·simp only [Prod.mk.injEq] at h; omega
  ·split at h
   ·simp only [Prod.mk.injEq] at h; omega
   ·split at h
    ·simp only [Prod.mk.injEq] at h; omega
    ·exact rd_bad r _ _ h he
theorem readNum_bad {l : List UInt8} {n k e : Nat} (h : readNum l = (n, k, e)) (he : e ≠ 0) : n = 0 ∧ k = 0 := rd_bad l 0 0 h he
theorem readNum_any {l : List UInt8} {n k e : Nat} (h : readNum l = (n, k, e)) : k ≤ l.length ∧ n < 9223372036854775808 ∧ k ≤ 9 := by
 by_cases he : e = 0
 ·subst he
  obtain ⟨h1, h2, _, h4⟩ := readNum_form h
  refine ⟨h1, Nat.lt_of_lt_of_le h4 ?_, h2⟩
  exact Nat.le_trans (Nat.pow_le_pow_right (by decide) h2) (by decide)
 ·obtain ⟨rfl, rfl⟩ := readNum_bad h he
  exact ⟨Nat.zero_le _, by decide, by omega⟩
theorem err_any {w : World} {g : Nat} {E : Nat} (h2 : w.cell? ⟨g, 2, none⟩ = some (.int .i64 (E : Int))) (h3 : w.cell? ⟨g, 3, none⟩ = some (.bool true)) :
  Calls Tryz.prog 148 #[.pointer (some ⟨g, 0, none⟩)] w fun e w' => e = .returned (.int .i64 (E : Int)) ∧ w = w' := by
 go_enter Tryz.func148, Tryz.ntmps148
 go_wp2
 go_ret
 exact ⟨rfl, rfl⟩
theorem conv_at {w : World} {p : Option Addr} {n c : Nat} {l : List UInt8} (h : By w (.slice p n c) l) : (convert 40 9 (.slice p n c)).run Tryz.prog w = .ok (.string (str l)) w := conv_by h 0
theorem quiet_same {f : FuncId} {args : Array Value} {w : World} {n : Nat} {v : Value}
  (h : Calls Tryz.prog f args (w.drewN n) fun e w' => e = .returned v ∧ w.drewN n = w') : Calls Tryz.prog f args (w.drewN n) fun e w'' => e = .returned v ∧ ∃ m, w'' = w.drewN m :=
 h.mono fun _ _ ⟨he, hm⟩ => ⟨he, n, hm.symm⟩
theorem Own.notNew {B : Nat} {w : World} {v : Value} {l : List UInt8} (h : Own B w v l) : l = [] ∨ ∀ k, v.ownBlock = some k → some w.heap.size ≠ some k := by
 rcases h with ⟨_, rfl⟩ | ⟨g, cap, rfl, _, _, _, hc, _⟩
 ·exact .inl rfl
 ·cases l with
  | nil => exact .inl rfl
  | cons x r =>
   refine .inr fun k hk e => ?_
   simp only [Value.ownBlock, Option.some.injEq] at hk
   injection e with e
   subst hk
   have := lt_of_cell (hc 0 x rfl)
   simp only at this
   omega
theorem gtrans {a b c : World} {row : Option Nat} (h : a.grownBy b row) (h' : b.grownBy c row) : a.grownBy c row :=
 ⟨h'.os.trans h.os, h'.tape.trans h.tape, h'.output.trans h.output, Nat.le_trans h.size h'.size, fun k hk hr => (h'.block k (Nat.lt_of_lt_of_le hk h.size) hr).trans (h.block k hk hr)⟩
theorem scanNumber_any {w : World} {g : Nat} {p : Option Addr} {n c at_ E0 : Nat} {l : List UInt8} (hS : Sc w g (.slice p n c) at_ E0) (hby : By w (.slice p n c) l) (hat : at_ ≤ n)
  {N A E : Nat} (hT : (if E0 ≠ 0 then (0, at_, E0) else ((readNum (l.drop at_)).1, at_ + (readNum (l.drop at_)).2.1, (readNum (l.drop at_)).2.2)) = (N, A, E)) :
  Calls Tryz.prog 134 #[.pointer (some ⟨g, 0, none⟩)] w (ScPost w g (.slice p n c) A E (.int .i64 N)) := by
 have h2 := hS.c2
 have h3 := hS.c3
 have HS := hide hS
 have HBY := hide hby
 have HT := hide hT
 clear hS hby hT
 by_cases h0 : E0 ≠ 0
 ·have g1 : ((E0 : Int) != 0) = true := by simp; omega
  have ht := HT.out
  rw [if_pos h0] at ht
  simp only [Prod.mk.injEq] at ht
  obtain ⟨rfl, rfl, rfl⟩ := ht
  clear HT h0
  go_enter Tryz.func134, Tryz.ntmps134
  go_wp2_with fail
  refine (err_any h2 h3).mono ?_
  rintro e w1 ⟨rfl, rfl⟩
  go_wp2
  go_ret
  exact ⟨rfl, HS.out, World.grownBy.refl _ _⟩
 ·obtain rfl : E0 = 0 := by omega
  have ht := HT.out
  rw [if_neg h0] at ht
  obtain ⟨N', K, e0, hR⟩ : ∃ N K e0, readNum (l.drop at_) = (N, K, e0) := ⟨_, _, _, rfl⟩
  rw [hR] at ht
  simp only [Prod.mk.injEq] at ht
  obtain ⟨rfl, rfl, rfl⟩ := ht
  have HR := hide hR
  clear HT h0 hR
  go_enter Tryz.func134, Tryz.ntmps134
  go_wp2_with fail
  refine (err_any h2 h3).mono ?_
  rintro e w1 ⟨rfl, rfl⟩
  go_wp2_with fail
  refine (number_any HS.out rfl rfl HBY.out hat HR.out).mono ?_
  rintro e w1 ⟨rfl, hh, hg⟩
  have S1 : Sc w1 g (.slice p n c) (at_ + K) 0 := hh
  have d2 := S1.c2
  have f2 := S1.fr 2
  have G1 := hide hg
  have HS1 := hide S1
  clear hh hg S1 h2 h3
  go_wp2
  go_ret
  exact ⟨rfl, HS1.out.set2 rfl, gtrans G1.out (grown_set _ _ _ _)⟩
theorem over_any {w : World} {v : Value} {l : List UInt8} (hv : By w v l) (hl : l.length ≤ 140737488355328) :
  Calls Tryz.prog 133 #[v] w fun e w' => ∃ (g : Nat) (u : Value), e = .returned (.pointer (some ⟨g, 0, none⟩)) ∧ w.heap.size ≤ g ∧ Sc w' g u 0 0 ∧ Own w.heap.size w' u l ∧ (l = [] ∨ ∀ k, u.ownBlock = some k → some g ≠ some k) ∧ Below w.heap.size w w' := by
 obtain ⟨p, n, c, rfl⟩ := hv.sl
 have HV := hide hv
 clear hv
 go_enter Tryz.func133, Tryz.ntmps133
 go_wp2_with fail
 refine (clone_any HV.out hl).mono ?_
 rintro e w1 ⟨v1, rfl, ho, hb⟩
 obtain ⟨p1, n1, c1, rfl⟩ := ho.by_.sl
 have HO := hide ho
 have HB := hide hb
 clear ho hb
 go_wp2
 go_ret
 exact ⟨w1.heap.size, _, rfl, HB.out.size, heap_alloc_new _ _, HO.out.below ((Below.refl _ _).alloc (Nat.le_refl _) _), HO.out.notNew, HB.out.alloc HB.out.size _⟩
def refC (v : Value) (at_ E : Nat) : Array Value := #[v, .int .i64 (at_ : Int), .int .i64 (E : Int)]
def Sr (w : World) (g : Nat) (v : Value) (at_ E : Nat) : Prop := w.heap[g]? = some (.cells (refC v at_ E) 142 (0, 0))
theorem Sr.c0 {w : World} {g : Nat} {v : Value} {at_ E : Nat} (h : Sr w g v at_ E) : w.cell? ⟨g, 0, none⟩ = some v := by rw [cell_of_row w g 0 _ 142 (0, 0) h]; rfl
theorem Sr.c1 {w : World} {g : Nat} {v : Value} {at_ E : Nat} (h : Sr w g v at_ E) : w.cell? ⟨g, 1, none⟩ = some (.int .i64 (at_ : Int)) := by rw [cell_of_row w g 1 _ 142 (0, 0) h]; rfl
theorem Sr.c2 {w : World} {g : Nat} {v : Value} {at_ E : Nat} (h : Sr w g v at_ E) : w.cell? ⟨g, 2, none⟩ = some (.int .i64 (E : Int)) := by rw [cell_of_row w g 2 _ 142 (0, 0) h]; rfl
theorem Sr.fr {w : World} {g : Nat} {v : Value} {at_ E : Nat} (h : Sr w g v at_ E) (i : Nat) : w.frozen? ⟨g, i, none⟩ = false := frozen_of_row w g i _ 142 h
theorem Sr.set1 {w : World} {g : Nat} {v : Value} {at_ E : Nat} (h : Sr w g v at_ E) {x : Int} {k : Nat} (e : x = (k : Int)) : Sr (w.setCell ⟨g, 1, none⟩ (.int .i64 x)) g v k E := by
 have := heap_setCell_same w g 1 _ 142 (.int .i64 x) h
 unfold Sr
 rw [this, e]
 rfl
theorem Sr.set2 {w : World} {g : Nat} {v : Value} {at_ E : Nat} (h : Sr w g v at_ E) {x : Int} {k : Nat} (e : x = (k : Int)) : Sr (w.setCell ⟨g, 2, none⟩ (.int .i64 x)) g v at_ k := by
 have := heap_setCell_same w g 2 _ 142 (.int .i64 x) h
 unfold Sr
 rw [this, e]
 rfl
def SrPost (w : World) (g : Nat) (v : Value) (at_ E : Nat) (r : Value) (e : Ending) (w' : World) : Prop := e = .returned r ∧ Sr w' g v at_ E ∧ w.grownBy w' (some g)
theorem refScanNumber_any {w : World} {g : Nat} {p : Option Addr} {n c at_ E0 : Nat} {l : List UInt8} (hS : Sr w g (.slice p n c) at_ E0) (hby : By w (.slice p n c) l) (hat : at_ ≤ n)
  {N A E : Nat} (hT : (if E0 ≠ 0 then (0, at_, E0) else ((readNum (l.drop at_)).1, at_ + (readNum (l.drop at_)).2.1, (readNum (l.drop at_)).2.2)) = (N, A, E)) :
  Calls Tryz.prog 91 #[.pointer (some ⟨g, 0, none⟩)] w (SrPost w g (.slice p n c) A E (.int .i64 N)) := by
 have h0 := hS.c0
 have h1 := hS.c1
 have h2 := hS.c2
 have hmm := hby.lenMax
 have hn := hby.len.1
 have HS := hide hS
 have HBY := hide hby
 have HT := hide hT
 have HN := hide hn
 clear hS hby hT hn
 by_cases he : E0 ≠ 0
 ·have g1 : ((E0 : Int) != 0) = true := by simp; omega
  have ht := HT.out
  rw [if_pos he] at ht
  simp only [Prod.mk.injEq] at ht
  obtain ⟨rfl, rfl, rfl⟩ := ht
  clear HT he
  go_enter Tryz.func91, Tryz.ntmps91
  go_wp2
  go_ret
  exact ⟨rfl, HS.out, World.grownBy.refl _ _⟩
 ·obtain rfl : E0 = 0 := by omega
  have ht := HT.out
  rw [if_neg he] at ht
  obtain ⟨N', K, e0, hR⟩ : ∃ N K e0, readNum (l.drop at_) = (N, K, e0) := ⟨_, _, _, rfl⟩
  rw [hR] at ht
  simp only [Prod.mk.injEq] at ht
  obtain ⟨rfl, rfl, rfl⟩ := ht
  have hk := readNum_any hR
  rw [List.length_drop, ← HN.out] at hk
  have hsum : (at_ : Int) + (K : Int) ≤ 9223372036854775807 := by omega
  have hat' : (at_ : Int) ≤ (n : Int) := by omega
  obtain ⟨q, hcut, hF⟩ := cut_from HBY.out hat
  obtain ⟨m1, hm1⟩ : ∃ m1, n - at_ = m1 := ⟨_, rfl⟩
  obtain ⟨d1, hd1⟩ : ∃ d1, c - at_ = d1 := ⟨_, rfl⟩
  rw [hm1, hd1] at hF
  simp only [hm1, hd1] at hcut
  have HR := hide hR
  have HF := hide hF
  have f1 := HS.out.fr 1
  have f2 := HS.out.fr 2
  clear HT he hR hm1 hd1 hF hk
  go_enter Tryz.func91, Tryz.ntmps91
  go_wp2_with fail
  go_quiet ((go_at_call 117; refine quiet_same (refRead_any (HF.out.drewN _) HR.out)))
  have HS1 : Hid (Sr (w.drewN nq) g (.slice p n c) at_ 0) := HS
  go_wp2
  go_ret
  exact ⟨rfl, (HS1.out.set1 (by omega)).set2 rfl, gtrans (grown_drewN (World.grownBy.refl _ _) _) (gtrans (grown_set _ _ _ _) (grown_set _ _ _ _))⟩
end Go.Proofs.YtgbdjcekpdfpjaaGreatDoor
namespace Go.Proofs.YtgbdjcekpdfpjaaGreatDoor
open Go.RowKit
theorem eg93 : Tryz.prog.eqGuardType Tryz.prog.depth 189 = false := by kernel_rfl
theorem eq9999 (w : World) (a b : Int) : (Op.equalIn 9999 5 (.int .u8 a) (.int .u8 b)).run Tryz.prog w = .ok (a == b) w := run_equalIn_int w 9998 5 .u8 .u8 a b Tryz.underlying5
theorem part93 (w : World) (a0 a1 a2 a3 : Int) : (part 5 #[.int .u8 a0, .int .u8 a1, .int .u8 a2, .int .u8 a3] 0).run Tryz.prog w = .ok (.int .u8 a0) w ∧ (part 5 #[.int .u8 a0, .int .u8 a1, .int .u8 a2, .int .u8 a3] 1).run Tryz.prog w = .ok (.int .u8 a1) w ∧
  (part 5 #[.int .u8 a0, .int .u8 a1, .int .u8 a2, .int .u8 a3] 2).run Tryz.prog w = .ok (.int .u8 a2) w ∧ (part 5 #[.int .u8 a0, .int .u8 a1, .int .u8 a2, .int .u8 a3] 3).run Tryz.prog w = .ok (.int .u8 a3) w := by
 refine ⟨?_, ?_, ?_, ?_⟩ <;> kernel_rfl
theorem eq_tails (W : World) (a0 a1 a2 a3 b0 b1 b2 b3 : Int) : (Op.equalIn 10000 189 (.agg #[.int .u8 a0, .int .u8 a1, .int .u8 a2, .int .u8 a3]) (.agg #[.int .u8 b0, .int .u8 b1, .int .u8 b2, .int .u8 b3])).run Tryz.prog W = .ok (a0 == b0 && (a1 == b1 && (a2 == b2 && a3 == b3))) W := by
 have pa := fun w => part93 w a0 a1 a2 a3
 have pb := fun w => part93 w b0 b1 b2 b3
 rw [show (10000 : Nat) = 9999 + 1 from rfl]
 rw [Op.equalIn]
 simp [run_underlying Tryz.underlying189, List.range', eq9999, Tryz.sizeOf5, pa, pb]
 by_cases h0 : a0 = b0 <;> by_cases h1 : a1 = b1 <;> by_cases h2 : a2 = b2 <;> by_cases h3 : a3 = b3 <;> simp [h0, h1, h2, h3]
theorem neq_tails (W : World) (s0 s1 s2 s3 t0 t1 t2 t3 : UInt8) (z : Bool) (hz : z = !decide ([s0, s1, s2, s3] = [t0, t1, t2, t3])) :
  (binOp .neq 189 (.agg #[.int .u8 (s0.toNat : Int), .int .u8 (s1.toNat : Int), .int .u8 (s2.toNat : Int), .int .u8 (s3.toNat : Int)]) (.agg #[.int .u8 (t0.toNat : Int), .int .u8 (t1.toNat : Int), .int .u8 (t2.toNat : Int), .int .u8 (t3.toNat : Int)])).run Tryz.prog W = .ok (.bool z) W := by
 rw [run_neq_struct, eq_tails, hz]
 simp only [Result.andThen_ok, Result.ok.injEq, Value.bool.injEq, and_true]
 congr 1
 rw [Bool.eq_iff_iff]
 have e : ∀ a b : UInt8, ((a.toNat : Int) == (b.toNat : Int)) = (a == b) := fun a b => by
  rw [Bool.eq_iff_iff]
  simp only [beq_iff_eq]
  constructor
  ·intro h
   exact UInt8.toNat_inj.1 (by omega)
  ·rintro rfl
   rfl
 simp [e]
theorem balloc {a w : World} (h : Below a.heap.size a w) (o : Obj) : Below a.heap.size a (w.alloc o) := h.alloc h.size o
theorem ret_slice {v : Value} {a a' b b' : Int} (h1 : a = a') (h2 : b = b') : Ending.returned (.tuple #[v, .int .i64 a, .int .i64 b]) = .returned (.tuple #[v, .int .i64 a', .int .i64 b']) := by rw [h1, h2]
def PickPost (w : World) (P : List UInt8) (K E : Nat) (e : Ending) (w' : World) : Prop :=
 ∃ v, e = .returned (.tuple #[v, .int .i64 K, .int .i64 E]) ∧ Own w.heap.size w' v P ∧ Below w.heap.size w w'
set_option maxRecDepth 200000 in
set_option maxHeartbeats 2000000 in
theorem wirePick_any {w : World} {v : Value} {l : List UInt8} (hv : By w v l) {P : List UInt8} {K E : Nat} (hP : pickL l = (P, K, E)) :
  Calls Tryz.prog 132 #[v] w (PickPost w P K E) := by
 obtain ⟨p, n, c, rfl⟩ := hv.sl
 obtain ⟨hn, hnc⟩ := hv.len
 have hmm := hv.lenMax
 have HV := hide hv
 have HN := hide hn
 clear hv hn
 cases l with
 | nil =>
  have h0 : n = 0 := HN.out
  have g1 : ((n : Int) == 0) = true := by simp; omega
  simp only [pickL, Prod.mk.injEq] at hP
  obtain ⟨rfl, rfl, rfl⟩ := hP
  clear h0
  go_enter Tryz.func132, Tryz.ntmps132
  go_wp2
  go_ret3
  exact ⟨_, rfl, Own.nil _ _, Below.refl _ _⟩
 | cons x r =>
  have hn1 : n = r.length + 1 := HN.out
  have g1 : ((n : Int) == 0) = false := by simp; omega
  have hp : (0 : Int) < (n : Int) := by omega
  obtain ⟨b, o, x', rfl, hx, hcell⟩ := HV.out.cellAt (k := 0) (by omega)
  simp at hx
  subst hx
  rw [Nat.add_zero] at hcell
  rw [pickL_cons] at hP
  by_cases h93 : x.toNat ≠ 93
  ·have g2 : ((x.toNat : Int) != 93) = true := by simp; omega
   rw [if_pos h93] at hP
   simp only [Prod.mk.injEq] at hP
   obtain ⟨rfl, rfl, rfl⟩ := hP
   clear h93 hn1
   go_enter Tryz.func132, Tryz.ntmps132
   go_wp2
   go_ret3
   exact ⟨_, rfl, Own.nil _ _, Below.refl _ _⟩
  ·have g2 : ((x.toNat : Int) != 93) = false := by simp; omega
   rw [if_neg h93] at hP
   obtain ⟨N, KK, e0, hr⟩ : ∃ N KK e0, readNum r = (N, KK, e0) := ⟨_, _, _, rfl⟩
   rw [hr] at hP
   dsimp only at hP
   have HR := hide hr
   have HP := hide hP
   have HN1 := hide hn1
   clear hr hP hn1 h93
   go_enter Tryz.func132, Tryz.ntmps132
   go_wp2_with fail
   have hB := heap_alloc_new w (.cells #[.slice (some ⟨b, o, none⟩) n c, .int .i64 1] 185)
   have hV1 := (HV.out.alloc (.cells #[.slice (some ⟨b, o, none⟩) n c, .int .i64 1] 185))
   refine (number_any (at_ := 1) (N := N) (K := KK) (E := e0) hB rfl rfl hV1 (by omega) (by rw [List.drop_succ_cons, List.drop_zero]; exact HR.out)).mono ?_
   rintro e w1 ⟨rfl, hh, hg⟩
   have hb1 : Below w.heap.size w w1 := ((Below.refl w.heap.size w).alloc (Nat.le_refl _) (.cells #[.slice (some ⟨b, o, none⟩) n c, .int .i64 1] 185)).grown hg (by simp) (fun k hk => by injection hk with hk; omega)
   have hbs1 := hb1.size
   have hc0 : w1.cell? ⟨w.heap.size, 0, none⟩ = some (.slice (some ⟨b, o, none⟩) n c) := by
    rw [cell_of_row w1 w.heap.size 0 _ 185 (0, 0) hh]
    simp
   have hc1 : w1.cell? ⟨w.heap.size, 1, none⟩ = some (.int .i64 ((1 + KK : Nat) : Int)) := by
    rw [cell_of_row w1 w.heap.size 1 _ 185 (0, 0) hh]
    simp
   have hHV1 := hide (HV.out.below hb1)
   clear hh hg hB hV1
   by_cases he0 : e0 ≠ 0
   ·have g3 : ((e0 : Int) != 0) = true := by simp; omega
    have hp := HP.out
    unfold pickB at hp
    rw [if_pos he0] at hp
    simp only [Prod.mk.injEq] at hp
    obtain ⟨rfl, rfl, rfl⟩ := hp
    clear he0 HP HR HN1
    go_wp2
    go_ret3
    exact ⟨_, rfl, Own.nil _ _, hb1⟩
   ·have he1 : e0 = 0 := by omega
    subst he1
    have hform := readNum_form HR.out
    have hKK := hform.1
    have hKK9 := hform.2.1
    by_cases hbig : 65536 < N
    ·have g4 : (65536 : Int) < (N : Int) := by omega
     have hp := HP.out
     unfold pickB at hp
     rw [if_neg (by simp), if_pos hbig] at hp
     simp only [Prod.mk.injEq] at hp
     obtain ⟨rfl, rfl, rfl⟩ := hp
     clear he0 HP HR HN1 hbig hform
     go_wp2
     go_ret3
     exact ⟨_, rfl, Own.nil _ _, hb1⟩
    ·have g4 : ¬ (65536 : Int) < (N : Int) := by omega
     have hKn : 1 + KK ≤ n := by have := HN1.out; omega
     have hKK' : (KK : Int) ≤ 9 := by omega
     clear he0 hform hKK hKK9
     go_wp2_with fail
     refine (left_any hc0 hc1 hKn hmm).mono ?_
     rintro e w2 ⟨rfl, q, rfl⟩
     by_cases hlen : (n : Int) - ((1 + KK : Nat) : Int) < (N : Int) + 4
     ·have hp := HP.out
      unfold pickB at hp
      rw [if_neg (by simp), if_neg hbig, if_pos (by have := HN1.out; rw [List.length_cons]; omega)] at hp
      simp only [Prod.mk.injEq] at hp
      obtain ⟨rfl, rfl, rfl⟩ := hp
      clear HP HR HN1 hbig
      go_wp2
      go_ret3
      exact ⟨_, rfl, Own.nil _ _, below_drewN hb1 q⟩
     ·go_wp2_with fail
      clear hcell g1 g2 hp hc0
      obtain ⟨en, hen⟩ : ∃ en, 1 + KK + N = en := ⟨_, rfl⟩
      have hen' : 1 + (KK : Int) + (N : Int) = (en : Int) := by omega
      rw [hen']
      have henn : en + 4 ≤ n := by omega
      have hei : (en : Int) ≤ (n : Int) := by omega
      have hec : (en : Int) ≤ (c : Int) := by omega
      obtain ⟨q2, hcutF, hF⟩ := cut_from hHV1.out (show en ≤ n by omega)
      have hT := cut_to hHV1.out (show en ≤ n by omega)
      have hcutT := fun W => run_cut_to W (some ⟨b, o, none⟩) n c en (by omega)
      obtain ⟨q3, hcutM, hM⟩ := cut_mid (j := 1 + KK) (k := en) hHV1.out (by omega) (show en ≤ n by omega)
      have e3 : ((1 + KK : Nat) : Int) = 1 + (KK : Int) := by omega
      rw [e3] at hcutM
      obtain ⟨m3, hm3⟩ : ∃ m3, en - (1 + KK) = m3 := ⟨_, rfl⟩
      obtain ⟨d3, hd3⟩ : ∃ d3, c - (1 + KK) = d3 := ⟨_, rfl⟩
      rw [hm3, hd3] at hM
      simp only [hm3, hd3] at hcutM
      have hlt1 : w.heap.size < w1.heap.size := World.block_lt_of_cell? w1 _ hc1
      have HBIG := hide hbig
      have HEN := hide hen
      clear hm3 hd3 e3 hbig
      obtain ⟨m2, hm2⟩ : ∃ m2, n - en = m2 := ⟨_, rfl⟩
      obtain ⟨d2, hd2⟩ : ∃ d2, c - en = d2 := ⟨_, rfl⟩
      rw [hm2, hd2] at hF
      simp only [hm2, hd2] at hcutF
      have hlt := crc_lt ((x :: r).take en)
      have c69 : ∀ W, Below w1.heap.size w1 W → Calls Tryz.prog 145 #[.slice q2 m2 d2] W fun e w' => e = .returned (tailB (((x :: r).drop en).take 4)) ∧ Below w1.heap.size w1 w' ∧ Below W.heap.size W w' := fun W hW =>
       (tailAt_any (hF.below hW) (by have := HN.out; rw [List.length_drop]; omega)).mono fun e w' ⟨he, hb⟩ => ⟨he, hW.trans (hb.mono hW.size), hb⟩
      have c23 : ∀ (W : World) (g : Nat), W.heap[g]? = some (.cells #[.slice (some ⟨b, o, none⟩) en c] 40 (0, 0)) → Below w1.heap.size w1 W → Calls Tryz.prog 147 #[.slice (some ⟨g, 0, none⟩) 1 1] W fun e w' => e = .returned (.int .u32 (crc ((x :: r).take en) : Nat)) ∧ W = w' := fun W g hW hb => by
       have hbs : Bss W (.slice (some ⟨g, 0, none⟩) 1 1) [(x :: r).take en] := Bss.of_parts (vs := [.slice (some ⟨b, o, none⟩) en c]) rfl (Nat.le_refl _) (by decide) rfl
        (fun i v hv => by rw [Nat.zero_add, cell_of_row W g i _ 40 (0, 0) hW]; simpa using hv)
        (fun i u m hu hm => by
         match i, hu, hm with
         | 0, hu, hm => simp only [List.getElem?_cons_zero, Option.some.injEq] at hu hm; subst hu hm; exact hT.below hb)
       have := wireSum_any hbs
       rwa [flatten_one] at this
      obtain ⟨S, hS⟩ : ∃ S, crc ((x :: r).take en) = S := ⟨_, rfl⟩
      rw [hS] at hlt
      simp only [hS] at c23
      obtain ⟨t0, t1, t2, t3, ht⟩ : ∃ t0 t1 t2 t3, tailL S = [t0, t1, t2, t3] := ⟨_, _, _, _, rfl⟩
      have hl4 : (((x :: r).drop en).take 4).length = 4 := by have := HN.out; rw [List.length_take, List.length_drop]; omega
      obtain ⟨s0, s1, s2, s3, hs4⟩ : ∃ s0 s1 s2 s3, ((x :: r).drop en).take 4 = [s0, s1, s2, s3] := by
       match ((x :: r).drop en).take 4, hl4 with
       | [s0, s1, s2, s3], _ => exact ⟨s0, s1, s2, s3, rfl⟩
      rw [hs4] at c69
      have l69 : tailB [s0, s1, s2, s3] = .agg #[.int .u8 (s0.toNat : Int), .int .u8 (s1.toNat : Int), .int .u8 (s2.toNat : Int), .int .u8 (s3.toNat : Int)] := rfl
      have l66 : tailB [t0, t1, t2, t3] = .agg #[.int .u8 (t0.toNat : Int), .int .u8 (t1.toNat : Int), .int .u8 (t2.toNat : Int), .int .u8 (t3.toNat : Int)] := rfl
      have c66 : ∀ W, Below w1.heap.size w1 W → Calls Tryz.prog 146 #[.int .u32 (S : Int)] W fun e w' => e = .returned (tailB [t0, t1, t2, t3]) ∧ Below w1.heap.size w1 w' ∧ Below W.heap.size W w' := fun W hW =>
       (tailOf_any S hlt W).mono fun e w' ⟨he, hb⟩ => ⟨by rw [he, ht], hW.trans (hb.mono hW.size), hb⟩
      rw [l69] at c69
      rw [l66] at c66
      have C69 := hide c69
      have C23 := hide c23
      have C66 := hide c66
      have HTT := hide ht
      have HSS := hide hS
      have HS4 := hide hs4
      have HM2 := hide hm2
      clear c69 c23 c66 ht hS hs4 hm2 hd2 hen hen' hl4 hF hT
      have hbq := below_drewN (Below.refl w1.heap.size w1) q
      have eg := fun W => run_eqGuard_agg (P := Tryz.prog) W .neq 189 (.tmp 38) (.tmp 44) #[.int .u8 (s0.toNat : Int), .int .u8 (s1.toNat : Int), .int .u8 (s2.toNat : Int), .int .u8 (s3.toNat : Int)] #[.int .u8 (t0.toNat : Int), .int .u8 (t1.toNat : Int), .int .u8 (t2.toNat : Int), .int .u8 (t3.toNat : Int)] eg93
      by_cases hEq : [s0, s1, s2, s3] = [t0, t1, t2, t3]
      ·have nq := fun W => neq_tails W s0 s1 s2 s3 t0 t1 t2 t3 false (by simp only [hEq]; rfl)
       have HEQ := hide hEq
       clear hEq
       go_region_held3 (fun _ => True) (trivial) (first
        | (go_at_call 145; refine (C69.out _ (by repeat (first | assumption | exact Below.refl _ _ | refine below_drewN ?_ _ | refine Below.drew ?_ | refine balloc ?_ _))).mono ?_; rintro e w3 ⟨rfl, hb3, hq3⟩)
        | (go_at_call 146; refine (C66.out _ (by repeat (first | assumption | exact Below.refl _ _ | refine below_drewN ?_ _ | refine Below.drew ?_ | refine balloc ?_ _))).mono ?_; rintro e w4 ⟨rfl, hb4, hq4⟩)
        | (go_at_call 147; refine (C23.out _ _ (by first | exact heap_alloc_new _ _ | exact (hq3.block _ (by simp)).trans (heap_alloc_new _ _)) (by repeat (first | assumption | exact Below.refl _ _ | refine below_drewN ?_ _ | refine Below.drew ?_ | refine balloc ?_ _))).mono ?_; rintro e w5 ⟨rfl, rfl⟩))
       all_goals
        have hc14 : w4.cell? ⟨w.heap.size, 1, none⟩ = some (.int .i64 (1 + (KK : Int))) := by
         rw [hb4.cell (p := ⟨w.heap.size, 1, none⟩) hlt1, hc1]
         rfl
        have hb4' := hb1.trans (hb4.mono hbs1)
        have HB4 := hide hb4
        have HB4' := hide hb4'
        clear eg nq hb3 hq3 hq4 hbq hc1 hb4 hb4' hcutF hcutT
        go_wp2_with fail
        refine (clone_any (hM.below HB4.out) (by rw [List.length_drop, List.length_take]; have := HEN.out; omega)).mono ?_
        rintro e w6 ⟨v6, rfl, ho6, hb6⟩
        have hs4 := HB4'.out.size
        have HO6 := hide (ho6.mono hs4)
        have HB6 := hide (HB4'.out.trans (hb6.mono hs4))
        clear ho6 hb6 hcutM
        go_wp2
        go_ret3
        have hp := HP.out
        unfold pickB at hp
        rw [if_neg (by simp), if_neg HBIG.out, if_neg (by have := HN1.out; rw [List.length_cons]; omega), HEN.out, HS4.out, HSS.out, HTT.out, if_pos HEQ.out] at hp
        simp only [Prod.mk.injEq] at hp
        obtain ⟨hp1, hp2, rfl⟩ := hp
        refine ⟨v6, ret_slice (by omega) rfl, ?_, HB6.out⟩
        have e1 : ((x :: r).take en).drop (1 + KK) = P := by
         rw [← hp1, ← HEN.out, List.drop_take, show 1 + KK + N - (1 + KK) = N by omega, show 1 + KK = KK + 1 by omega, List.drop_succ_cons]
        rw [← e1]
        exact HO6.out
      ·have nq := fun W => neq_tails W s0 s1 s2 s3 t0 t1 t2 t3 true (by simp only [hEq]; rfl)
       have HEQ := hide hEq
       clear hEq
       go_region_held3 (fun _ => True) (trivial) (first
        | (go_at_call 145; refine (C69.out _ (by repeat (first | assumption | exact Below.refl _ _ | refine below_drewN ?_ _ | refine Below.drew ?_ | refine balloc ?_ _))).mono ?_; rintro e w3 ⟨rfl, hb3, hq3⟩)
        | (go_at_call 146; refine (C66.out _ (by repeat (first | assumption | exact Below.refl _ _ | refine below_drewN ?_ _ | refine Below.drew ?_ | refine balloc ?_ _))).mono ?_; rintro e w4 ⟨rfl, hb4, hq4⟩)
        | (go_at_call 147; refine (C23.out _ _ (by first | exact heap_alloc_new _ _ | exact (hq3.block _ (by simp)).trans (heap_alloc_new _ _)) (by repeat (first | assumption | exact Below.refl _ _ | refine below_drewN ?_ _ | refine Below.drew ?_ | refine balloc ?_ _))).mono ?_; rintro e w5 ⟨rfl, rfl⟩))
       all_goals
        have HB4' := hide (hb1.trans (hb4.mono hbs1))
        clear eg nq hb3 hq3 hq4 hbq hc1 hb4 hcutF hcutT hcutM
        go_wp2
        go_ret3
        have hp := HP.out
        unfold pickB at hp
        rw [if_neg (by simp), if_neg HBIG.out, if_neg (by have := HN1.out; rw [List.length_cons]; omega), HEN.out, HS4.out, HSS.out, HTT.out, if_neg HEQ.out] at hp
        simp only [Prod.mk.injEq] at hp
        obtain ⟨rfl, rfl, rfl⟩ := hp
        exact ⟨_, rfl, Own.nil _ _, HB4'.out⟩
end Go.Proofs.YtgbdjcekpdfpjaaGreatDoor
namespace Go.Proofs.YtgbdjcekpdfpjaaGreatDoor
open Go.RowKit
theorem rec_iff {r : List UInt8} {n k : Nat} (h : readNum r = (n, k, 0)) (hn : 1 + k + n + 4 ≤ r.length + 1) :
  recL ((r.drop k).take n) = ((93 : UInt8) :: r).take (n + k + 5) ↔ (((93 : UInt8) :: r).drop (1 + k + n)).take 4 = tailL (crc (((93 : UInt8) :: r).take (1 + k + n))) := by
 obtain ⟨g1, g2⟩ := rec_parts h (by omega)
 rw [show n + k + 5 = 1 + k + n + 4 by omega, List.take_add, g1]
 unfold recL
 rw [List.append_cancel_left_eq]
 exact eq_comm
set_option maxRecDepth 200000 in
set_option maxHeartbeats 2000000 in
theorem refPick_any {w : World} {v : Value} {l : List UInt8} (hv : By w v l) {P : List UInt8} {K E : Nat} (hP : pickL l = (P, K, E)) :
  Calls Tryz.prog 116 #[v] w (PickPost w P K E) := by
 obtain ⟨p, n, c, rfl⟩ := hv.sl
 obtain ⟨hn, hnc⟩ := hv.len
 have hmm := hv.lenMax
 have HV := hide hv
 have HN := hide hn
 clear hv hn
 cases l with
 | nil =>
  have h0 : n = 0 := HN.out
  have g1 : ((n : Int) == 0) = true := by simp; omega
  simp only [pickL, Prod.mk.injEq] at hP
  obtain ⟨rfl, rfl, rfl⟩ := hP
  clear h0
  go_enter Tryz.func116, Tryz.ntmps116
  go_wp2
  go_ret3
  exact ⟨_, rfl, Own.nil _ _, Below.refl _ _⟩
 | cons x r =>
  have hn1 : n = r.length + 1 := HN.out
  have g1 : ((n : Int) == 0) = false := by simp; omega
  have hp : (0 : Int) < (n : Int) := by omega
  obtain ⟨b, o, x', rfl, hx, hcell⟩ := HV.out.cellAt (k := 0) (by omega)
  simp at hx
  subst hx
  rw [Nat.add_zero] at hcell
  rw [pickL_cons] at hP
  by_cases h93 : x.toNat ≠ 93
  ·have g2 : ((x.toNat : Int) != 93) = true := by simp; omega
   rw [if_pos h93] at hP
   simp only [Prod.mk.injEq] at hP
   obtain ⟨rfl, rfl, rfl⟩ := hP
   clear h93 hn1
   go_enter Tryz.func116, Tryz.ntmps116
   go_wp2
   go_ret3
   exact ⟨_, rfl, Own.nil _ _, Below.refl _ _⟩
  ·have g2 : ((x.toNat : Int) != 93) = false := by simp; omega
   rw [if_neg h93] at hP
   obtain rfl : x = 93 := u8_93 (by omega)
   obtain ⟨N, KK, e0, hr⟩ : ∃ N KK e0, readNum r = (N, KK, e0) := ⟨_, _, _, rfl⟩
   rw [hr] at hP
   dsimp only at hP
   obtain ⟨q1, hcut1, hF1⟩ := cut_from HV.out (k := 1) (by omega)
   rw [show ((1 : Nat) : Int) = 1 from rfl] at hcut1
   rw [List.drop_succ_cons, List.drop_zero] at hF1
   obtain ⟨m1, hm1⟩ : ∃ m1, n - 1 = m1 := ⟨_, rfl⟩
   obtain ⟨d1, hd1⟩ : ∃ d1, c - 1 = d1 := ⟨_, rfl⟩
   rw [hm1, hd1] at hF1
   simp only [hm1, hd1] at hcut1
   have HR := hide hr
   have HP := hide hP
   have HN1 := hide hn1
   clear hr hP hn1 h93 hm1 hd1
   go_enter Tryz.func116, Tryz.ntmps116
   go_wp2_with fail
   refine (refRead_any hF1 HR.out).mono ?_
   rintro e w1 ⟨rfl, rfl⟩
   by_cases he0 : e0 ≠ 0
   ·have g3 : ((e0 : Int) != 0) = true := by simp; omega
    have hp := HP.out
    unfold pickB at hp
    rw [if_pos he0] at hp
    simp only [Prod.mk.injEq] at hp
    obtain ⟨rfl, rfl, rfl⟩ := hp
    clear he0 HP HR HN1
    go_wp2
    go_ret3
    exact ⟨_, rfl, Own.nil _ _, Below.refl _ _⟩
   ·have he1 : e0 = 0 := by omega
    subst he1
    have hform := readNum_form HR.out
    have hKK := hform.1
    have hKK9 := hform.2.1
    by_cases hbig : 65536 < N
    ·have g4 : (65536 : Int) < (N : Int) := by omega
     have hp := HP.out
     unfold pickB at hp
     rw [if_neg (by simp), if_pos hbig] at hp
     simp only [Prod.mk.injEq] at hp
     obtain ⟨rfl, rfl, rfl⟩ := hp
     clear he0 HP HR HN1 hbig hform
     go_wp2
     go_ret3
     exact ⟨_, rfl, Own.nil _ _, Below.refl _ _⟩
    ·have g4 : ¬ (65536 : Int) < (N : Int) := by omega
     have hKn : 1 + KK ≤ n := by have := HN1.out; omega
     have hKK' : (KK : Int) ≤ 9 := by omega
     have HBIG := hide hbig
     clear he0 hform hKK hKK9 hbig
     by_cases hlen : (n : Int) - 1 - (KK : Int) - 4 < (N : Int)
     ·have hp := HP.out
      unfold pickB at hp
      rw [if_neg (by simp), if_neg HBIG.out, if_pos (by have := HN1.out; rw [List.length_cons]; omega)] at hp
      simp only [Prod.mk.injEq] at hp
      obtain ⟨rfl, rfl, rfl⟩ := hp
      clear HP HR HN1
      go_wp2
      go_ret3
      exact ⟨_, rfl, Own.nil _ _, Below.refl _ _⟩
     ·obtain ⟨q3, hcutM, hM⟩ := cut_mid (j := 1 + KK) (k := 1 + KK + N) HV.out (by omega) (by omega)
      have e3 : ((1 + KK : Nat) : Int) = 1 + (KK : Int) := by omega
      have e4 : ((1 + KK + N : Nat) : Int) = 1 + (KK : Int) + (N : Int) := by omega
      rw [e3, e4] at hcutM
      have e5 : (((93 : UInt8) :: r).take (1 + KK + N)).drop (1 + KK) = (r.drop KK).take N := by
       rw [List.drop_take, show 1 + KK + N - (1 + KK) = N by omega, show 1 + KK = KK + 1 by omega, List.drop_succ_cons]
      rw [e5] at hM
      obtain ⟨m3, hm3⟩ : ∃ m3, 1 + KK + N - (1 + KK) = m3 := ⟨_, rfl⟩
      obtain ⟨d3, hd3⟩ : ∃ d3, c - (1 + KK) = d3 := ⟨_, rfl⟩
      rw [hm3, hd3] at hM
      simp only [hm3, hd3] at hcutM
      have hpl : ((r.drop KK).take N).length = N := (rec_parts HR.out (by have := HN1.out; omega)).2
      have hT := cut_to HV.out (k := N + KK + 5) (by omega)
      obtain ⟨TB, hTB⟩ : ∃ TB, ((93 : UInt8) :: r).take (N + KK + 5) = TB := ⟨_, rfl⟩
      obtain ⟨RA, hRA⟩ : ∃ RA, recL ((r.drop KK).take N) = RA := ⟨_, rfl⟩
      rw [hTB] at hT
      have HTB := hide hTB
      have HRA := hide hRA
      clear hTB hRA
      have hcutT := fun W => run_cut_to W (some ⟨b, o, none⟩) n c (N + KK + 5) (by omega)
      have e6 : ((N + KK + 5 : Nat) : Int) = (N : Int) + (KK : Int) + 5 := by omega
      simp only [e6] at hcutT
      have HPL := hide hpl
      clear hm3 hd3 e3 e4 e5 e6 hpl hcell hcut1 hp
      go_wp2_with (at_builtin; go_must (refine wpList_append_row_by rfl _ _ rfl rfl rfl rfl (row_made0 w) (hM.alloc _) (by rw [HPL.out]; simp; omega) (by simp) ?_); intro v1 w1 hown1 hb1)
      have hb01 : Below w.heap.size w w1 := ((Below.refl _ _).alloc (Nat.le_refl _) _).trans hb1
      have hbs1 := hb01.size
      have HO1 := hide (Own.of_row hown1)
      rw [List.nil_append] at HO1
      obtain ⟨p1, n1, c1, rfl⟩ := HO1.out.by_.sl
      have HB01 := hide hb01
      have HTT := hide hT
      clear hown1 hb1 hb01 hM hT hcutM
      refine (refRecord_any HO1.out.by_ (by rw [HPL.out]; omega)).mono ?_
      rintro e w2 ⟨v2, rfl, ho2, hb2⟩
      rw [HRA.out] at ho2
      obtain ⟨p2, n2, c2, rfl⟩ := ho2.by_.sl
      have hb02 := HB01.out.trans (hb2.mono hbs1)
      have hcv1 := fun q => conv_by ho2.by_ q
      have hcv2 := fun q => conv_by (HTT.out.below hb02) q
      have hO1 := HO1.out.below hb2
      have HO12 := hide hO1
      have HB02 := hide hb02
      clear ho2 hb2 hb02 hO1 HO1
      have hi1 : (N : Int) + (KK : Int) + 5 ≤ (n : Int) := by omega
      have hiff := rec_iff HR.out (by have := HN1.out; omega)
      rw [HTB.out, HRA.out] at hiff
      have hp := HP.out
      unfold pickB at hp
      rw [if_neg (by simp), if_neg HBIG.out, if_neg (by have := HN1.out; rw [List.length_cons]; omega)] at hp
      clear HP
      by_cases hEq : RA = TB
      ·rw [if_pos (hiff.1 hEq)] at hp
       simp only [Prod.mk.injEq] at hp
       obtain ⟨rfl, rfl, rfl⟩ := hp
       have hbe : ((str RA).toList == (str TB).toList) = true := by rw [str_beq, decide_eq_true_eq]; exact hEq
       clear hiff hEq
       go_wp2_with fail
       go_quiet (fail)
       go_wp2
       go_ret3
       exact ⟨_, ret_slice (by omega) rfl, HO12.out.mono (Nat.le_refl _), below_drewN HB02.out _⟩
      ·rw [if_neg (fun h => hEq (hiff.2 h))] at hp
       simp only [Prod.mk.injEq] at hp
       obtain ⟨rfl, rfl, rfl⟩ := hp
       have hbe : ((str RA).toList == (str TB).toList) = false := by rw [str_beq, decide_eq_false_iff_not]; exact hEq
       clear hiff hEq
       go_wp2_with fail
       go_quiet (fail)
       go_wp2
       go_ret3
       exact ⟨_, rfl, Own.nil _ _, below_drewN HB02.out _⟩
end Go.Proofs.YtgbdjcekpdfpjaaGreatDoor
