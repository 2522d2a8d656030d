/- A number read off the beginning of bytes: by the document and by the program's strip. -/
import Derived.Test.YtlmoiaeppehiiaaCut
import Derived.Deep.QuietTactic
import Derived.BigQuiet
import Derived.LoopTactic
namespace Go.Proofs.Ytlmoiaeppehiiaa
open Go.RowKit

/-- What stands at the beginning of bytes behind i of a number's own, which came to n: the number, how many bytes it has, the error. -/
def rd : List UInt8 → Nat → Nat → Nat × Nat × Nat
  | [], _, _ => (0, 0, 2)
  | x :: r, i, n => if i = 0 ∧ x.toNat = 128 then (0, 0, 10) else if i = 9 then (0, 0, 5) else if x.toNat < 128 then (n * 128 + x.toNat % 128, i + 1, 0) else rd r (i + 1) (n * 128 + x.toNat % 128)
def readNum (b : List UInt8) : Nat × Nat × Nat := rd b 0 0

theorem rd_at {l : List UInt8} {i : Nat} {x : UInt8} (hx : l[i]? = some x) (n : Nat) :
    rd (l.drop i) i n = if i = 0 ∧ x.toNat = 128 then (0, 0, 10) else if i = 9 then (0, 0, 5) else if x.toNat < 128 then (n * 128 + x.toNat % 128, i + 1, 0) else rd (l.drop (i + 1)) (i + 1) (n * 128 + x.toNat % 128) := by
  have hi := (List.getElem?_eq_some_iff.1 hx).1
  rw [List.drop_eq_getElem_cons hi, (List.getElem?_eq_some_iff.1 hx).2]
  rfl

theorem rd_end {l : List UInt8} {i : Nat} (hi : l.length ≤ i) (n : Nat) : rd (l.drop i) i n = (0, 0, 2) := by
  rw [List.drop_eq_nil_of_le hi]
  rfl

theorem ret3 {k1 k2 k3 : IntKind} {a a' b b' c c' : Int} (h1 : a = a') (h2 : b = b') (h3 : c = c') : Ending.returned (.tuple #[.int k1 a, .int k2 b, .int k3 c]) = .returned (.tuple #[.int k1 a', .int k2 b', .int k3 c']) := by
  rw [h1, h2, h3]
theorem ret2 {k1 k2 : IntKind} {a a' b b' : Int} (h1 : a = a') (h2 : b = b') : Ending.returned (.tuple #[.int k1 a, .int k2 b]) = .returned (.tuple #[.int k1 a', .int k2 b']) := by
  rw [h1, h2]

theorem or_all7 : ∀ y : Fin 256, bits BinOp.and IntKind.u8 ((y.val : Nat) : Int) 127 = ((y.val % 128 : Nat) : Int) := and_all
theorem and_u8 (x : UInt8) : bits BinOp.and IntKind.u8 (x.toNat : Int) 127 = ((x.toNat % 128 : Nat) : Int) := and_all ⟨x.toNat, x.toNat_lt⟩

theorem i64_or7 (z y : Nat) (hz : z < 128 ^ 8) (hy : y < 128) : bits BinOp.or IntKind.i64 ((z : Int) * 128) (y : Int) = ((z * 128 + y : Nat) : Int) := by
  have e : z * 128 + y = (z * 128) ||| y := by
    have := Nat.shiftLeft_add_eq_or_of_lt (i := 7) (b := y) (by omega) z
    rw [Nat.shiftLeft_eq] at this
    exact this
  have hx : (z * 128) ||| y < 9223372036854775808 := by rw [← e]; omega
  have e2 : ((z : Int) * 128) = ((z * 128 : Nat) : Int) := by omega
  rw [e, e2]
  show IntKind.i64.wrap ((BitVec.ofInt 64 ((z * 128 : Nat) : Int) ||| BitVec.ofInt 64 (y : Int)).toNat : Int) = _
  rw [BitVec.toNat_or, BitVec.ofInt_natCast, BitVec.ofInt_natCast, BitVec.toNat_ofNat, BitVec.toNat_ofNat, Nat.mod_eq_of_lt (by omega), Nat.mod_eq_of_lt (by omega), IntKind.wrap_i64]
  omega

set_option maxRecDepth 200000 in
set_option maxHeartbeats 1000000 in
/-- The document's Read. -/
theorem refRead_any {w : World} {v : Value} {l : List UInt8} (hv : By w v l) {N K E : Nat} (hR : readNum l = (N, K, E)) :
    Calls Try.prog 86 #[v] w fun e w' => e = .returned (.tuple #[.int .i64 N, .int .i64 K, .int .i64 E]) ∧ w = w' := by
  obtain ⟨p, m, c, rfl⟩ := hv.sl
  obtain ⟨hm, _⟩ := hv.len
  have hmm := hv.lenMax
  have HV := hide hv
  have HM := hide hm
  have HR := hide hR
  clear hv hm hR
  go_enter Try.func86, Try.ntmps86
  go_wp2
  go_loop [5, 6] (fun a i => ∃ k z : Nat, k ≤ 9 ∧ i = .int .i64 k ∧ a = .int .i64 z ∧ z < 128 ^ k ∧ rd (l.drop k) k z = (N, K, E)) (fun _ i => 10 - (intOf i).toNat)
  case atStart => exact ⟨0, 0, by omega, rfl, rfl, by omega, HR.out⟩
  case round =>
    obtain ⟨k, z, hk, rfl, rfl, hz, hrd⟩ := hrel
    have HRD := hide hrd
    clear hrd
    by_cases hkm : (k : Int) < (m : Int)
    · obtain ⟨b, o, x, rfl, hx, hcell⟩ := HV.out.cellAt (k := k) (by omega)
      have hrd := HRD.out
      rw [rd_at hx] at hrd
      have hxl : (x.toNat : Int) < 256 := by have := x.toNat_lt; omega
      clear hx HRD
      have guard : (((k : Int) == 0) = true ∧ ((x.toNat : Int) == 128) = true ∧ k = 0 ∧ x.toNat = 128) ∨ ((((k : Int) == 0) = false ∨ (((k : Int) == 0) = true ∧ ((x.toNat : Int) == 128) = false)) ∧ ¬ (k = 0 ∧ x.toNat = 128)) := by
        by_cases h0 : k = 0
        · by_cases h1 : x.toNat = 128
          · exact .inl ⟨by simp; omega, by simp; omega, h0, h1⟩
          · exact .inr ⟨.inr ⟨by simp; omega, by simp; omega⟩, fun h => h1 h.2⟩
        · exact .inr ⟨.inl (by simp; omega), fun h => h0 h.1⟩
      rcases guard with ⟨g1, g2, h0, h1⟩ | ⟨g, hno⟩
      · rw [if_pos ⟨h0, h1⟩] at hrd
        simp only [Prod.mk.injEq] at hrd
        obtain ⟨rfl, rfl, rfl⟩ := hrd
        clear h0 h1 HR
        go_wp2
        go_ret3
        exact ⟨rfl, rfl⟩
      · rw [if_neg hno] at hrd
        by_cases h9 : k = 9
        · rw [if_pos h9] at hrd
          simp only [Prod.mk.injEq] at hrd
          obtain ⟨rfl, rfl, rfl⟩ := hrd
          have g3 : ((k : Int) == 9) = true := by simp; omega
          clear h9 hno HR
          rcases g with g | ⟨g, g2⟩
          all_goals
            go_wp2
            go_ret3
            exact ⟨rfl, rfl⟩
        · rw [if_neg h9] at hrd
          have g3 : ((k : Int) == 9) = false := by simp; omega
          have hz8 : z < 128 ^ 8 := Nat.lt_of_lt_of_le hz (Nat.pow_le_pow_right (by decide) (by omega))
          have hz8' : (z : Int) ≤ 72057594037927935 := by omega
          have hzk : z * 128 + x.toNat % 128 < 128 ^ (k + 1) := by rw [Nat.pow_succ]; omega
          have hk9 : k + 1 ≤ 9 := by omega
          have HZK := hide hzk
          clear hz hz8 hzk h9 hno HR
          by_cases hlt : (x.toNat : Int) < 128
          · rw [if_pos (by omega)] at hrd
            simp only [Prod.mk.injEq] at hrd
            obtain ⟨rfl, rfl, rfl⟩ := hrd
            rcases g with g | ⟨g, g2⟩
            all_goals
              go_wp2
              go_ret3
              exact ⟨ret3 (by omega) (by omega) rfl, rfl⟩
          · rw [if_neg (by omega)] at hrd
            have HRD := hide hrd
            clear hrd
            rcases g with g | ⟨g, g2⟩
            all_goals
              go_wp2
              go_round
              case rel => exact ⟨k + 1, z * 128 + x.toNat % 128, hk9, by go_num, by go_num, HZK.out, HRD.out⟩
              case measure => simp [intOf]; omega
    · have hrd := HRD.out
      rw [rd_end (by have := HM.out; omega)] at hrd
      simp only [Prod.mk.injEq] at hrd
      obtain ⟨rfl, rfl, rfl⟩ := hrd
      clear HR HRD
      go_wp2
      go_ret3
      exact ⟨rfl, rfl⟩

theorem grown_drewN {w w' : World} {row : Option Nat} (h : w.grownBy w' row) (n : Nat) : w.grownBy (w'.drewN n) row := ⟨h.os, h.tape, h.output, h.size, h.block⟩

/-- What a strip's number leaves. -/
def NumPost (w : World) (g t : Nat) (cs : Array Value) (at_ N K E : Nat) (e : Ending) (w' : World) : Prop :=
  e = .returned (.tuple #[.int .i64 N, .int .i64 E]) ∧ w'.heap[g]? = some (.cells (cs.setIfInBounds 1 (.int .i64 ((at_ + K : Nat) : Int))) t (0, 0)) ∧ w.grownBy w' (some g)

set_option maxRecDepth 200000 in
set_option maxHeartbeats 1000000 in
/-- strip.number: it reads a number from its place on, and goes behind it. -/
theorem number_any {w : World} {g t : Nat} {cs : Array Value} {p : Option Addr} {n c at_ : Nat} {l : List UInt8} (hB : w.heap[g]? = some (.cells cs t (0, 0))) (h0 : cs[0]? = some (.slice p n c)) (h1 : cs[1]? = some (.int .i64 (at_ : Int)))
    (hby : By w (.slice p n c) l) (hat : at_ ≤ n) {N K E : Nat} (hR : readNum (l.drop at_) = (N, K, E)) :
    Calls Try.prog 78 #[.pointer (some ⟨g, 0, none⟩)] w (NumPost w g t cs at_ N K E) := by
  obtain ⟨q, hcut, hr⟩ := cut_from hby hat
  have hat' : (at_ : Int) ≤ (n : Int) := by omega
  have hmm := hby.lenMax
  obtain ⟨m, hm⟩ : ∃ m, n - at_ = m := ⟨_, rfl⟩
  obtain ⟨d, hd⟩ : ∃ d, c - at_ = d := ⟨_, rfl⟩
  rw [hm, hd] at hr
  simp only [hm, hd] at hcut
  have hmn : m + at_ ≤ n := by omega
  obtain ⟨r, hrr⟩ : ∃ r, l.drop at_ = r := ⟨_, rfl⟩
  rw [hrr] at hr hR
  have hc0 : w.cell? ⟨g, 0, none⟩ = some (.slice p n c) := by rw [cell_of_row w g 0 cs t (0, 0) hB]; exact h0
  have hc1 : w.cell? ⟨g, 1, none⟩ = some (.int .i64 (at_ : Int)) := by rw [cell_of_row w g 1 cs t (0, 0) hB]; exact h1
  have hf1 := frozen_of_row w g 1 cs t hB
  have HC1 := hide h1
  have HB := hide hB
  have HRY := hide hr
  have HR := hide hR
  have HM := hide hr.len.1
  clear hB h0 h1 hby hr hR hm hd hrr
  have hset0 : cs.setIfInBounds 1 (.int .i64 ((at_ + 0 : Nat) : Int)) = cs := by
    rw [Nat.add_zero]
    apply Array.ext
    · simp
    · intro i h1 h2
      rw [Array.getElem_setIfInBounds h2]
      split
      · rename_i hi
        subst hi
        have := HC1.out
        rw [Array.getElem?_eq_getElem h2] at this
        injection this with this
        exact this.symm
      · rfl
  have HSET := hide hset0
  clear hset0 HC1
  by_cases hm0 : (0 : Int) < (m : Int)
  · obtain ⟨b, o, x, rfl, hx, hcell⟩ := HRY.out.cellAt (k := 0) (by omega)
    rw [Nat.add_zero] at hcell
    by_cases h128 : x.toNat = 128
    · have g1 : ((x.toNat : Int) == 128) = true := by simp; omega
      have hrd := HR.out
      unfold readNum at hrd
      rw [← List.drop_zero (l := r), rd_at hx, if_pos ⟨rfl, h128⟩] at hrd
      simp only [Prod.mk.injEq] at hrd
      obtain ⟨rfl, rfl, rfl⟩ := hrd
      clear hx h128 HR
      go_enter Try.func78, Try.ntmps78
      go_wp2
      go_quiet (fail)
      go_wp2
      go_ret2
      exact ⟨rfl, by rw [HSET.out]; exact HB.out, grown_drewN (World.grownBy.refl w _) _⟩
    · have g1 : ((x.toNat : Int) == 128) = false := by simp; omega
      have HX := hide hx
      have H128 := hide h128
      clear hx h128
      go_enter Try.func78, Try.ntmps78
      go_wp2
      go_quiet (fail)
      go_wp2
      clear hcell hc0 g1
      go_loop [5, 6, 7, 28] (fun a _ _ i => ∃ k z : Nat, k ≤ 9 ∧ i = .int .i64 k ∧ a = .int .i64 z ∧ z < 128 ^ k ∧ rd (r.drop k) k z = (N, K, E)) (fun _ _ _ i => 10 - (intOf i).toNat)
      case atStart => exact ⟨0, 0, by omega, rfl, rfl, by omega, HR.out⟩
      case round =>
        obtain ⟨k, z, hk, rfl, rfl, hz, hrd⟩ := hrel
        have HRD := hide hrd
        clear hrd HR
        by_cases hkm : (k : Int) < (m : Int)
        · obtain ⟨b2, o2, y, e2, hy, hcell⟩ := HRY.out.cellAt (k := k) (by omega)
          injection e2 with e2
          injection e2 with e2 e3
          subst e2 e3
          have hrd := HRD.out
          rw [rd_at hy] at hrd
          have hno : ¬ (k = 0 ∧ y.toNat = 128) := by
            rintro ⟨rfl, h2⟩
            have := HX.out
            rw [hy] at this
            injection this with this
            subst this
            exact H128.out h2
          rw [if_neg hno] at hrd
          have hyl : (y.toNat : Int) < 256 := by have := y.toNat_lt; omega
          clear hy HRD hno
          by_cases h9 : k = 9
          · rw [if_pos h9] at hrd
            simp only [Prod.mk.injEq] at hrd
            obtain ⟨rfl, rfl, rfl⟩ := hrd
            have g3 : ((k : Int) == 9) = true := by simp; omega
            clear h9
            go_wp2
            go_ret2
            exact ⟨rfl, by rw [HSET.out]; exact HB.out, grown_drewN (World.grownBy.refl w _) _⟩
          · rw [if_neg h9] at hrd
            have g3 : ((k : Int) == 9) = false := by simp; omega
            have hz8 : z < 128 ^ 8 := Nat.lt_of_lt_of_le hz (Nat.pow_le_pow_right (by decide) (by omega))
            have hz8' : (z : Int) ≤ 72057594037927935 := by omega
            have hzk : z * 128 + y.toNat % 128 < 128 ^ (k + 1) := by rw [Nat.pow_succ]; omega
            have hk9 : k + 1 ≤ 9 := by omega
            have ea := and_u8 y
            have eo : bits BinOp.or IntKind.i64 ((z : Int) * 128) ((y.toNat : Int) % 128) = ((z * 128 + y.toNat % 128 : Nat) : Int) := by
              rw [show ((y.toNat : Int) % 128) = ((y.toNat % 128 : Nat) : Int) by omega]
              exact i64_or7 z (y.toNat % 128) hz8 (by omega)
            have HEO := hide eo
            clear eo
            have HZK := hide hzk
            clear hz hz8 hzk h9
            by_cases hlt : (y.toNat : Int) < 128
            · rw [if_pos (by omega)] at hrd
              simp only [Prod.mk.injEq] at hrd
              obtain ⟨rfl, rfl, rfl⟩ := hrd
              have hsum : (at_ : Int) + ((k : Int) + 1) ≤ 9223372036854775807 := by omega
              go_wp2
              go_ret2
              refine ⟨ret2 HEO.out rfl, ?_, ?_⟩
              · have h := heap_setCell_same (w.drewN nq) g 1 cs t (.int .i64 ((at_ : Int) + ((k : Int) + 1))) HB.out
                rw [h]
                have e : (at_ : Int) + ((k : Int) + 1) = ((at_ + (k + 1) : Nat) : Int) := by omega
                rw [e]
              · exact ⟨rfl, rfl, rfl, by simp [World.setCell, World.drewN], fun i _ hi => heap_setCell_other (w.drewN nq) ⟨g, 1, none⟩ i _ (fun e => hi (by rw [e]))⟩
            · rw [if_neg (by omega)] at hrd
              have HRD := hide hrd
              clear hrd
              go_wp2
              go_round
              case rel => exact ⟨k + 1, z * 128 + y.toNat % 128, hk9, by go_num, by rw [HEO.out], HZK.out, HRD.out⟩
              case measure => simp [intOf]; omega
        · have hrd := HRD.out
          rw [rd_end (by have := HM.out; omega)] at hrd
          simp only [Prod.mk.injEq] at hrd
          obtain ⟨rfl, rfl, rfl⟩ := hrd
          clear HRD
          go_wp2
          go_ret2
          exact ⟨rfl, by rw [HSET.out]; exact HB.out, grown_drewN (World.grownBy.refl w _) _⟩
  · have hrd := HR.out
    unfold readNum at hrd
    rw [← List.drop_zero (l := r), rd_end (by have := HM.out; omega)] at hrd
    simp only [Prod.mk.injEq] at hrd
    obtain ⟨rfl, rfl, rfl⟩ := hrd
    clear HR
    go_enter Try.func78, Try.ntmps78
    go_wp2
    go_quiet (fail)
    go_wp2
    refine wp_loop_rounds 1 ?_
    rw [rounds_succ]
    go_wp2
    go_ret2
    exact ⟨rfl, by rw [HSET.out]; exact HB.out, grown_drewN (World.grownBy.refl w _) _⟩
end Go.Proofs.Ytlmoiaeppehiiaa
