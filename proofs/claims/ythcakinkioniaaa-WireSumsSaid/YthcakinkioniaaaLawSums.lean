/- The walk of the statement on sums. -/
import Derived.Test.YthcakinkioniaaaOpen
import Derived.BigGuard
import Derived.Lib.SlBytesConst
namespace Go.Proofs.Ythcakinkioniaaa
open Go.RowKit

theorem by_lit (w : World) (l : List UInt8) (m : Nat × Nat) (hl : l.length ≤ 1000) : By (w.alloc (.cells (l.map bv).toArray 5 m)) (.slice (some ⟨w.heap.size, 0, none⟩) l.length l.length) l := by
  refine ⟨_, _, rfl, Nat.le_refl _, by simp only [maxLen]; omega, (fun e => by cases e), fun a e i x hx => ?_⟩
  injection e with e
  subst e
  rw [add_lit0, Nat.zero_add, World.cell?_alloc_mark]
  simp [hx]

theorem crc_nine : crc [49, 50, 51, 52, 53, 54, 55, 56, 57] = 58124007 := by decide +kernel

def nine : List UInt8 := [49, 50, 51, 52, 53, 54, 55, 56, 57]
theorem nine_cells : (nine.map bv).toArray = #[.int .u8 49, .int .u8 50, .int .u8 51, .int .u8 52, .int .u8 53, .int .u8 54, .int .u8 55, .int .u8 56, .int .u8 57] := by rfl
def four : List UInt8 := [49, 50, 51, 52]
theorem four_cells : (four.map bv).toArray = #[.int .u8 49, .int .u8 50, .int .u8 51, .int .u8 52] := by rfl
def five : List UInt8 := [53, 54, 55, 56, 57]
theorem five_cells : (five.map bv).toArray = #[.int .u8 53, .int .u8 54, .int .u8 55, .int .u8 56, .int .u8 57] := by rfl

theorem size_alloc' (w : World) (o : Obj) : (w.alloc o).heap.size = w.heap.size + 1 := by simp

theorem one_part {w : World} {v : Value} {l : List UInt8} (h : By w v l) : Bss (w.alloc (.cells #[v] 22)) (.slice (some ⟨w.heap.size, 0, none⟩) 1 1) [l] :=
  Bss.new (vs := [v]) rfl (by decide) rfl fun i u m hu hm => by
    match i, hu, hm with
    | 0, hu, hm => simp at hu hm; subst hu hm; exact h

theorem two_parts {w : World} {v u : Value} {l m : List UInt8} (h : By w v l) (h2 : By w u m) : Bss (w.alloc (.cells #[v, u] 22)) (.slice (some ⟨w.heap.size, 0, none⟩) 2 2) [l, m] :=
  Bss.new (vs := [v, u]) rfl (by decide) rfl fun i u m hu hm => by
    match i, hu, hm with
    | 0, hu, hm => simp at hu hm; subst hu hm; exact h
    | 1, hu, hm => simp at hu hm; subst hu hm; exact h2

theorem nine_part (w : World) : Bss ((w.alloc (.cells #[.int .u8 49, .int .u8 50, .int .u8 51, .int .u8 52, .int .u8 53, .int .u8 54, .int .u8 55, .int .u8 56, .int .u8 57] 5 (9, 10))).alloc (.cells #[.slice (some ⟨w.heap.size, 0, none⟩) 9 9] 22))
    (.slice (some ⟨w.heap.size + 1, 0, none⟩) 1 1) [nine] := by
  have h := by_lit w nine (9, 10) (by decide)
  rw [nine_cells] at h
  have h2 := one_part h
  rw [size_alloc'] at h2
  exact h2

theorem nine_sum {w : World} {v : Value} (h : Bss w v [nine]) : Calls Try.prog 23 #[v] w fun e w' => e = .returned (.int .u32 58124007) ∧ w = w' := by
  refine (wireSum_any h).mono fun e w' ⟨he, hw⟩ => ⟨?_, hw⟩
  rw [he, flatten_one]
  have : crc nine = 58124007 := crc_nine
  rw [this]
  rfl

theorem conv2 (w : World) : (convert 22 22 (.slice (some ⟨w.heap.size + 1, 0, none⟩) 5 5)).run Try.prog
      ((w.alloc (.cells #[.int .u8 49, .int .u8 50, .int .u8 51, .int .u8 52] 5 (4, 5))).alloc (.cells #[.int .u8 53, .int .u8 54, .int .u8 55, .int .u8 56, .int .u8 57] 5)) =
    .ok (.slice (some ⟨w.heap.size + 1, 0, none⟩) 5 5) ((w.alloc (.cells #[.int .u8 49, .int .u8 50, .int .u8 51, .int .u8 52] 5 (4, 5))).alloc (.cells #[.int .u8 53, .int .u8 54, .int .u8 55, .int .u8 56, .int .u8 57] 5 (5, 6))) := by
  have h := Lib.run_convert_bytes_const (P := Try.prog) (w.alloc (.cells #[.int .u8 49, .int .u8 50, .int .u8 51, .int .u8 52] 5 (4, 5))) 22 5 #[.int .u8 53, .int .u8 54, .int .u8 55, .int .u8 56, .int .u8 57] 5 5 Try.underlying22 Try.underlying5
  rw [size_alloc'] at h
  exact h

theorem two_const (w : World) : Bss (((w.alloc (.cells #[.int .u8 49, .int .u8 50, .int .u8 51, .int .u8 52] 5 (4, 5))).alloc (.cells #[.int .u8 53, .int .u8 54, .int .u8 55, .int .u8 56, .int .u8 57] 5 (5, 6))).alloc (.cells #[.slice (some ⟨w.heap.size, 0, none⟩) 4 4, .slice (some ⟨w.heap.size + 1, 0, none⟩) 5 5] 22))
    (.slice (some ⟨w.heap.size + 1 + 1, 0, none⟩) 2 2) [four, five] := by
  have h := by_lit w four (4, 5) (by decide)
  rw [four_cells] at h
  have h5 := by_lit (w.alloc (.cells #[.int .u8 49, .int .u8 50, .int .u8 51, .int .u8 52] 5 (4, 5))) five (5, 6) (by decide)
  rw [five_cells, size_alloc'] at h5
  have h2 := two_parts (h.alloc (.cells #[.int .u8 53, .int .u8 54, .int .u8 55, .int .u8 56, .int .u8 57] 5 (5, 6))) h5
  rw [size_alloc', size_alloc'] at h2
  exact h2

theorem two_sum {w : World} {v : Value} (h : Bss w v [four, five]) : Calls Try.prog 23 #[v] w fun e w' => e = .returned (.int .u32 58124007) ∧ w = w' := by
  refine (wireSum_any h).mono fun e w' ⟨he, hw⟩ => ⟨?_, hw⟩
  rw [he]
  have e1 : [four, five].flatten = nine := rfl
  have : crc nine = 58124007 := crc_nine
  rw [e1, this]
  rfl

set_option maxRecDepth 200000 in
set_option maxHeartbeats 1000000 in
theorem sums_law (a0 : Option Addr) (len0 cap0 : Nat) (ls : List (List UInt8)) (hl : ls.length = len0) (hs : ∀ l ∈ ls, l.length ≤ 140737488351232) (w : World) (hv : Bss w (.slice a0 len0 cap0) ls) :
    Calls Try.prog 5 #[.slice a0 len0 cap0] w fun e w' => e = .returned (.bool true) ∧ Below w.heap.size w w' := by
  have hm' : (len0 : Int) ≤ 9223372036854775807 := by have := hv.len.2.1; unfold maxLen at this; omega
  have HV := hide hv
  have HL := hide hl
  have HS := hide hs
  clear hv hl hs
  have kc := fun (w : World) (C : Array Value) (n c : Nat) => Lib.run_convert_bytes_const (P := Try.prog) w 22 5 C n c Try.underlying22 Try.underlying5
  go_enter Try.func5, Try.ntmps5
  go_wp2
  go_loop [3, 4] (fun a i => ∃ k z : Nat, k ≤ len0 ∧ i = .int .i64 k ∧ a = .int .i64 z ∧ z ≤ 140737488482305 ∧ z = k + Lib.lens (ls.take k)) (fun _ i => len0 - (intOf i).toNat)
  case atStart => exact ⟨0, 0, by omega, rfl, rfl, by omega, by rw [List.take_zero]; rfl⟩
  case round =>
    obtain ⟨k, z, hk, rfl, rfl, hz, hvk⟩ := hrel
    have HK := hide hvk
    clear hvk
    by_cases hkn : (k : Int) < (len0 : Int)
    · by_cases hzm : (z : Int) ≤ 131072
      · obtain ⟨b, o, q, m, d, l, rfl, hx, hcell, hby⟩ := HV.out.cellAt (k := k) (by have := HL.out; omega)
        obtain ⟨hml, _⟩ := hby.len
        have hst := Lib.lens_take_succ ls k l hx
        have hlm := HS.out l (List.mem_of_getElem? hx)
        have hsum : z + 1 + m ≤ 140737488482305 := by omega
        have HST := hide hst
        have HML := hide hml
        clear hst hx hby hml hlm
        have hmb : (m : Int) ≤ 140737488482305 := by omega
        go_wp2
        go_round
        case rel => exact ⟨k + 1, z + 1 + m, by omega, by go_num, by go_num, hsum, by rw [HST.out, HK.out, HML.out]; omega⟩
        case measure => simp [intOf]; omega
      · have hz2 : (131072 : Int) < (z : Int) := by omega
        go_wp2_with fail
        refine (nine_sum (nine_part w)).mono ?_
        rintro e w2 ⟨rfl, rfl⟩
        go_wp2
        go_ret
        exact ⟨rfl, ((Below.refl _ _).alloc (Nat.le_refl _) _).alloc (by simp) _⟩
    · obtain rfl : k = len0 := by omega
      have hK2 : z = k + Lib.lens ls := by rw [HK.out, ← HL.out, List.take_length]
      by_cases hzm : (z : Int) ≤ 131072
      · have hlens : Lib.lens ls ≤ 131072 := by omega
        have hlen47 : ls.length ≤ 131072 := by have := HL.out; omega
        have HK2 := hide hK2
        clear hK2
        go_wp2_with fail
        refine (join_any HV.out (by omega) (by omega)).mono ?_
        rintro e w1 ⟨v1, rfl, ho1, hb1⟩
        obtain ⟨p1, n1, c1, rfl⟩ := ho1.by_.sl
        have hbs1 := hb1.size
        have H1 := hide ho1
        have HV1 := hide (HV.out.below hb1)
        clear ho1
        go_wp2_with fail
        refine (wireSum_any HV1.out).mono ?_
        rintro e w2 ⟨rfl, rfl⟩
        obtain ⟨S, hS⟩ : ∃ S, crc ls.flatten = S := ⟨_, rfl⟩
        rw [hS]
        go_wp2_with fail
        refine (refSum_any H1.out.by_).mono ?_
        rintro e w2 ⟨rfl, rfl⟩
        rw [hS]
        have HSS := hide hS
        clear hS
        go_wp2_with fail
        refine (wireSum_any (one_part H1.out.by_)).mono ?_
        rintro e w2 ⟨rfl, rfl⟩
        rw [flatten_one, HSS.out]
        go_wp2_with fail
        refine (wireSum_any (HV1.out.below ((Below.refl _ _).alloc (Nat.le_refl _) _))).mono ?_
        rintro e w2 ⟨rfl, rfl⟩
        rw [HSS.out]
        have hlens' : Lib.lens ls ≤ 1000000 := by omega
        go_wp2_with fail
        refine (concat_any (HV1.out.below ((Below.refl _ _).alloc (Nat.le_refl _) _)) hlens').mono ?_
        rintro e w3 ⟨v3, rfl, ho3, hb3⟩
        obtain ⟨p3, n3, c3, rfl⟩ := ho3.by_.sl
        have hb13 : Below w1.heap.size w1 w3 := ((Below.refl _ _).alloc (Nat.le_refl _) _).trans (hb3.mono (by simp))
        have hbw3 := hb1.trans (hb13.mono hbs1)
        have hs3 := hbw3.size
        have H3 := hide ho3
        have HB13 := hide hb13
        have HBW := hide hbw3
        clear ho3 hb3 hb13 hbw3
        go_wp2_with fail
        refine (equal_any (H1.out.by_.below HB13.out) H3.out.by_).mono ?_
        rintro e w4 ⟨rfl, rfl⟩
        rw [beq_self_eq_true]
        have kc2 := conv2 w3
        go_wp2_with fail
        refine (two_sum (two_const w3)).mono ?_
        rintro e w4 ⟨rfl, rfl⟩
        clear H1 H3 HV HV1 kc2 kc
        go_wp2
        go_ret
        exact ⟨rfl, ((HBW.out.alloc hs3 _).alloc (by simp; omega) _).alloc (by simp; omega) _⟩
      · go_wp2_with fail
        refine (nine_sum (nine_part w)).mono ?_
        rintro e w2 ⟨rfl, rfl⟩
        go_wp2
        go_ret
        exact ⟨rfl, ((Below.refl _ _).alloc (Nat.le_refl _) _).alloc (by simp) _⟩
end Go.Proofs.Ythcakinkioniaaa
