/- Several texts made one. -/
import Derived.Test.YtgbdjcekpdfpjaaGreatDoorShelf
import Derived.Lib.SlFresh
import Derived.Lib.SlParts
import Derived.WalkKit
import Derived.Deep.RegionHeld
import Derived.Deep.RegionHeld3
import Derived.OrdersHeld
import Derived.ArgAppend
import Derived.WalkSmall
import Derived.Deep.Draws
import Derived.Laws.BitsAllLaws
import Derived.WalkLawsBesides
import Derived.WalkSpells
import Derived.Outline
import Derived.Laws.IdiomAt
import Derived.Deep.LoopGhost
import Derived.Deep.AppendLies
import Derived.Deep.MidRow
import Derived.Lib.AppendStr
import Derived.Lib.AppendZeros
import Derived.Deep.QuietTactic
import Derived.BigQuiet
import Derived.LoopTactic
namespace Go.Proofs.YtgbdjcekpdfpjaaGreatDoor
open Go.RowKit
section
variable {P : Program} {ops : Array Oper} {Q : Exit → Act → World → Prop} {md : Region.Mode} {S : World → Prop} {i : Nat} {oi : Oper} {v : Value} {fuel : Nat} {listed : Array Bool} {a : Act} {w : World}
theorem tkI (hi : ops[i]? = some oi) (hw : Region.wanted oi (yielded ops a.tmps) = true) (hv : ∀ w, S w → (execOp a.eval oi).run P w = .ok (.value v) w)
    (h : wpAnyH P md ops Q S fuel (listed.setIfInBounds i true) (a.put oi.dst v) w) (hs : Region.noSelect ops = true := by kernel_rfl) (hf : Region.free md ops listed i = true := by kernel_rfl) (hr : (Region.ready md ops listed).contains i = true := by kernel_rfl)
    (hQ : ∀ c a w, Q (.panic c) (a.put oi.dst v) w → Q (.panic c) a w := by exact fun _ _ _ h => h) (hS : S w := by assumption) : wpAnyH P md ops Q S (fuel + 1) listed a w := wpAnyH_take hi hs hf hr hQ (Or.inl ⟨hw, hv⟩) hS h
theorem tkO (hi : ops[i]? = some oi) (hw : Region.wanted oi (yielded ops a.tmps) = false)
    (h : wpAnyH P md ops Q S fuel (listed.setIfInBounds i true) (a.put oi.dst undef) w) (hs : Region.noSelect ops = true := by kernel_rfl) (hf : Region.free md ops listed i = true := by kernel_rfl) (hr : (Region.ready md ops listed).contains i = true := by kernel_rfl)
    (hQ : ∀ c a w, Q (.panic c) (a.put oi.dst undef) w → Q (.panic c) a w := by exact fun _ _ _ h => h) (hS : S w := by assumption) : wpAnyH P md ops Q S (fuel + 1) listed a w := wpAnyH_take hi hs hf hr hQ (Or.inr ⟨hw, rfl⟩) hS h
end
theorem qA {α : Type _} (l : List α) (i : Nat) (a : α) : l.toArray.setIfInBounds i a = (l.set i a).toArray := List.setIfInBounds_toArray ..
theorem qB {α : Type _} (x : α) (l : List α) (a : α) : (x :: l).set 0 a = a :: l := List.set_cons_zero ..
theorem qC {α : Type _} (x : α) (l : List α) (i : Nat) (a : α) : (x :: l).set (i + 1) a = x :: l.set i a := List.set_cons_succ ..
section
variable {P : Program} {ops : Array Oper} {Q : Exit → Act → World → Prop} {md : Region.Mode} {S : World → Prop} {oi : Oper} {rest : List Oper} {v : Value} {fuel : Nat} {listed : Array Bool} {a : Act} {w : World}
theorem tkD {i : Nat} (h : ops.toList.drop i = oi :: rest) : ops[i]? = some oi := by
  have h1 : (ops.toList.drop i)[0]? = some oi := by rw [h]; rfl
  rw [List.getElem?_drop] at h1
  simpa using h1
theorem tkL {l2 : Array Bool} {a2 : Act} (i : Nat) (hd : ops.toList.drop i = oi :: rest)
    (h : wpAnyH P md ops Q S fuel l2 a2 w) (hw : Region.wanted oi (yielded ops a.tmps) = true := by rfl) (hv : ∀ w, S w → (execOp a.eval oi).run P w = .ok (.value v) w := by intro w hSw; (try dsimp only at hSw); go_simp; try with_reducible rfl) (hl2 : listed.setIfInBounds i true = l2 := by (try simp only [qA, qB, qC]); rfl) (ha2 : a.put oi.dst v = a2 := by (try simp only [Act.put, qA, qB, qC]); rfl) (hs : Region.noSelect ops = true := by kernel_rfl) (hf : Region.free md ops listed i = true := by kernel_rfl) (hr : (Region.ready md ops listed).contains i = true := by kernel_rfl)
    (hQ : ∀ c a w, Q (.panic c) (a.put oi.dst v) w → Q (.panic c) a w := by exact fun _ _ _ h => h) (hS : S w := by assumption) : wpAnyH P md ops Q S (fuel + 1) listed a w := tkI (tkD hd) hw hv (by rw [hl2, ha2]; exact h) hs hf hr hQ hS
theorem tkM {l2 : Array Bool} {a2 : Act} (i : Nat) (hd : ops.toList.drop i = oi :: rest)
    (h : wpAnyH P md ops Q S fuel l2 a2 w) (hw : Region.wanted oi (yielded ops a.tmps) = false := by rfl) (hl2 : listed.setIfInBounds i true = l2 := by (try simp only [qA, qB, qC]); rfl) (ha2 : a.put oi.dst undef = a2 := by (try simp only [Act.put, qA, qB, qC]); rfl) (hs : Region.noSelect ops = true := by kernel_rfl) (hf : Region.free md ops listed i = true := by kernel_rfl) (hr : (Region.ready md ops listed).contains i = true := by kernel_rfl)
    (hQ : ∀ c a w, Q (.panic c) (a.put oi.dst undef) w → Q (.panic c) a w := by exact fun _ _ _ h => h) (hS : S w := by assumption) : wpAnyH P md ops Q S (fuel + 1) listed a w := tkO (tkD hd) hw (by rw [hl2, ha2]; exact h) hs hf hr hQ hS
theorem acL {i : Nat} {rs : List Nat} (hd : ops.toList.drop i = oi :: rest)
    (h : ∀ K' : Act → World → Prop, Shut (∀ a w, S w → (S w → wpAnyH P md ops Q S fuel (listed.setIfInBounds i true) a w) → K' a w) → if Region.wanted oi (yielded ops a.tmps) = true then Oper.wp P oi a w K' Q else K' (a.put oi.dst undef) w)
    (hs : AllReadyH P md ops Q S fuel listed a w rs) : AllReadyH P md ops Q S fuel listed a w (i :: rs) := AllReadyH.cons (tkD hd) h hs
end
theorem hide {p : Prop} (h : p) : Hid p := h
def bv (x : UInt8) : Value := .int .u8 (x.toNat : Int)
theorem add_lit0 (b o i : Nat) : (⟨b, o, none⟩ : Addr).add i = ⟨b, o + i, none⟩ := by unfold Addr.add; split <;> simp_all
theorem block_add (a : Addr) (i : Nat) : (a.add i).block = a.block := by unfold Addr.add; split <;> rfl
def By (w : World) (v : Value) (l : List UInt8) : Prop :=
 ∃ (p : Option Addr) (cap : Nat), v = .slice p l.length cap ∧ l.length ≤ cap ∧ cap ≤ maxLen ∧ (p = none → cap = 0) ∧ ∀ a, p = some a → ∀ (i : Nat) x, l[i]? = some x → w.cell? (a.add i) = some (bv x)
def Own (B : Nat) (w : World) (v : Value) (l : List UInt8) : Prop :=
 (v = .slice none 0 0 ∧ l = []) ∨
 ∃ g cap : Nat, v = .slice (some ⟨g, 0, none⟩) l.length cap ∧ B ≤ g ∧ l.length ≤ cap ∧ cap ≤ maxLen ∧ (∀ (i : Nat) x, l[i]? = some x → w.cell? ⟨g, i, none⟩ = some (bv x)) ∧
  (∀ i, i < cap → (w.cell? ⟨g, i, none⟩).isSome = true) ∧ ∀ i, i < cap → w.frozen? ⟨g, i, none⟩ = false
theorem By.nil (w : World) : By w (.slice none 0 0) [] := ⟨none, 0, rfl, by simp, by simp [maxLen], fun _ => rfl, fun a h => by cases h⟩
theorem By.shape {w : World} {v : Value} {l : List UInt8} (h : By w v l) : ∃ p c, v = .slice p l.length c := by
 obtain ⟨p, c, e, _⟩ := h
 exact ⟨p, c, e⟩
theorem Own.nil (B : Nat) (w : World) : Own B w (.slice none 0 0) [] := .inl ⟨rfl, rfl⟩
theorem Own.by_ {B : Nat} {w : World} {v : Value} {l : List UInt8} (h : Own B w v l) : By w v l := by
 rcases h with ⟨rfl, rfl⟩ | ⟨g, cap, rfl, _, hl, hm, hc, _, _⟩
 ·exact By.nil w
 ·refine ⟨some ⟨g, 0, none⟩, cap, rfl, hl, hm, (fun e => by cases e), fun a e i x hx => ?_⟩
  injection e with e
  subst e
  rw [add_lit0, Nat.zero_add]
  exact hc i x hx
theorem lt_of_cell {w : World} {a : Addr} {v : Value} (h : w.cell? a = some v) : a.block < w.heap.size := World.block_lt_of_cell? w a h
theorem By.below {w w' : World} {v : Value} {l : List UInt8} (h : By w v l) (hb : Below w.heap.size w w') : By w' v l := by
 obtain ⟨p, cap, rfl, hl, hm, hn, hc⟩ := h
 exact ⟨p, cap, rfl, hl, hm, hn, fun a e i x hx => (hb.cell (lt_of_cell (hc a e i x hx))).trans (hc a e i x hx)⟩
theorem By.drewN {w : World} {v : Value} {l : List UInt8} (h : By w v l) (n : Nat) : By (w.drewN n) v l := h
theorem By.alloc {w : World} {v : Value} {l : List UInt8} (h : By w v l) (o : Obj) : By (w.alloc o) v l := h.below ((Below.refl _ _).alloc (Nat.le_refl _) o)
theorem Own.below {B : Nat} {w w' : World} {v : Value} {l : List UInt8} (h : Own B w v l) (hb : Below w.heap.size w w') : Own B w' v l := by
 rcases h with h | ⟨g, cap, rfl, hB, hl, hm, hc, hs, hf⟩
 ·exact .inl h
 ·by_cases h0 : cap = 0
  ·subst h0
   exact .inr ⟨g, 0, rfl, hB, hl, hm, fun i x hx => by simp at hl; subst hl; simp at hx, fun i hi => by omega, fun i hi => by omega⟩
  ·have hlt : g < w.heap.size := by
    obtain ⟨u, hu⟩ := Option.isSome_iff_exists.1 (hs 0 (by omega))
    exact lt_of_cell hu
   exact .inr ⟨g, cap, rfl, hB, hl, hm, fun i x hx => (hb.cell (p := ⟨g, i, none⟩) hlt).trans (hc i x hx), fun i hi => by rw [hb.cell (p := ⟨g, i, none⟩) hlt]; exact hs i hi, fun i hi => (hb.frozen (p := ⟨g, i, none⟩) hlt).trans (hf i hi)⟩
theorem Own.mono {B B' : Nat} {w : World} {v : Value} {l : List UInt8} (h : Own B w v l) (hB : B' ≤ B) : Own B' w v l := by
 rcases h with h | ⟨g, cap, rfl, hBg, r⟩
 ·exact .inl h
 ·exact .inr ⟨g, cap, rfl, by omega, r⟩
theorem Own.of_row {base : Nat} {w : World} {e : TypeId} {v : Value} {n : Nat} {l : List UInt8} (h : w.ownsRow base e 1 v n (l.map bv)) : Own base w v l := by
 have hn : l.length = n := by have := h.1; simpa using this
 subst hn
 rcases h.2 with ⟨rfl, h0⟩ | ⟨g, cap, cur, rfl, hB, hg, hl, hm, hs, ht⟩
 ·exact .inl ⟨rfl, List.eq_nil_of_length_eq_zero h0⟩
 ·refine .inr ⟨g, cap, rfl, hB, hl, hm, fun i x hx => ?_, fun i hi => ?_, fun i _ => ?_⟩
  ·have := h.cells (g := g) rfl i (bv x) (by simp [hx])
   rwa [add_lit0, Nat.zero_add] at this
  ·rw [cell_of_row w g i cur e (0, 0) hg]
   simp [show i < cur.size by omega]
  ·exact frozen_of_row w g i cur e hg
theorem Own.of_fresh {B : Nat} {w : World} {v : Value} {l : List UInt8} (h : Lib.FreshBytes B w v l) : Own B w v l := by
 obtain ⟨g, cap, zs, rfl, hB, hl, hm, hz, hr, hb, hc, hf⟩ := h
 refine .inr ⟨g, cap, rfl, hB, hl, hm, fun i x hx => ?_, fun i hi => by rw [hc i hi]; rfl, hf⟩
 have hi : i < l.length := (List.getElem?_eq_some_iff.1 hx).1
 rw [hc i (by omega)]
 have h1 : (Lib.bytesOf (zs.take l.length))[i]? = some x := by rw [hb]; exact hx
 have hiz : i < zs.length := by omega
 simp only [Lib.bytesOf, List.getElem?_map, List.getElem?_take, hi, if_true, List.getElem?_eq_getElem hiz, Option.map_some, Option.some.injEq] at h1
 have := hr zs[i] (List.getElem_mem hiz)
 simp only [List.getD, List.getElem?_eq_getElem hiz, Option.getD_some, Option.some.injEq, bv, Value.int.injEq, true_and]
 rw [← h1]
 simp
 omega
theorem By.holds {w : World} {v : Value} {l : List UInt8} (h : By w v l) : Lib.HoldsBytes w v l := by
 obtain ⟨p, cap, rfl, hl, hm, hn, hc⟩ := h
 exact ⟨p, cap, rfl, fun e => List.eq_nil_of_length_eq_zero (by have := hn e; omega), fun a e i x hx => hc a e i x hx⟩
theorem By.bytesIn {w : World} {p : Option Addr} {n cap : Nat} {l : List UInt8} (h : By w (.slice p n cap) l) : Lib.BytesIn w p n (Lib.numsL l) ∧ (Lib.numsL l).length = n := by
 obtain ⟨p', cap', e, hl, hm, hn, hc⟩ := h
 injection e with e1 e2 e3
 subst e1 e2 e3
 refine ⟨?_, Lib.numsL_length l⟩
 rcases p with _ | a
 ·have h0 : l.length = 0 := by have := hn rfl; omega
  rw [h0]
  exact Lib.BytesIn.nil _ _ _
 ·exact Lib.BytesIn.of_cells (fun i hi => by
   rw [hc a rfl i l[i] (List.getElem?_eq_getElem hi)]
   simp [bv, Lib.numsL, List.getD, hi])
theorem equal_any {w : World} {v1 v2 : Value} {l1 l2 : List UInt8} (h1 : By w v1 l1) (h2 : By w v2 l2) :
  Calls Tryz.prog 39 #[v1, v2] w fun e w' => e = .returned (.bool (l1 == l2)) ∧ w = w' := by
 have h1' := h1
 have h2' := h2
 obtain ⟨p1, c1, rfl, _⟩ := h1
 obtain ⟨p2, c2, rfl, _⟩ := h2
 obtain ⟨b1, n1⟩ := h1'.bytesIn
 obtain ⟨b2, n2⟩ := h2'.bytesIn
 refine (Tryz.bytes_Equal_all p1 p2 _ c1 _ c2 _ _ w n1 n2 b1 b2).mono fun e w' ⟨he, hw⟩ => ⟨?_, hw.symm⟩
 rw [he, Lib.bytesOf_numsL, Lib.bytesOf_numsL]
theorem map_numsL (l : List UInt8) : (Lib.numsL l).map (Value.int .u8) = l.map bv := by
 unfold Lib.numsL
 rw [List.map_map]
 rfl
theorem clone_any {w : World} {v : Value} {l : List UInt8} (h : By w v l) (hl : l.length ≤ 140737488355328) :
  Calls Tryz.prog 74 #[v] w fun e w' => ∃ v', e = .returned v' ∧ Own w.heap.size w' v' l ∧ Below w.heap.size w w' := by
 obtain ⟨p, c, rfl, hlc, hm, hn, hc⟩ := h
 rcases p with _ | a
 ·obtain rfl : l = [] := List.eq_nil_of_length_eq_zero (by have := hn rfl; omega)
  exact (Tryz.bytes_Clone_nil _ c w).mono fun e w' ⟨he, hw⟩ => ⟨_, he, Own.nil _ _, by rw [hw]; exact Below.refl _ _⟩
 ·refine (Tryz.bytes_Clone_at a l.length c (Lib.numsL l) w (Lib.numsL_length l) hl (fun i hi => ?_)).mono fun e w' ⟨v', he, ho, _, hb⟩ => ⟨v', he, ?_, hb⟩
  ·rw [hc a rfl i l[i] (List.getElem?_eq_getElem hi)]
   simp [bv, Lib.numsL, List.getD, hi]
  ·rw [map_numsL] at ho
   exact Own.of_row ho
end Go.Proofs.YtgbdjcekpdfpjaaGreatDoor
namespace Go.Proofs.YtgbdjcekpdfpjaaGreatDoor
def hi (m : Nat) : List UInt8 := if _h : m = 0 then [] else hi (m / 128) ++ [UInt8.ofNat (m % 128 + 128)]
termination_by m
decreasing_by omega
def digits (n : Nat) : List UInt8 := hi (n / 128) ++ [UInt8.ofNat (n % 128)]
theorem hi_zero : hi 0 = [] := by rw [hi]; simp
theorem hi_pos {m : Nat} (h : m ≠ 0) : hi m = hi (m / 128) ++ [UInt8.ofNat (m % 128 + 128)] := by rw [hi]; simp [h]
theorem hi_length (m f : Nat) (h : m < 128 ^ f) : (hi m).length ≤ f := by
 induction f generalizing m with
 | zero => simp at h; subst h; rw [hi_zero]; simp
 | succ f ih =>
  by_cases h0 : m = 0
  ·subst h0; rw [hi_zero]; simp
  ·rw [hi_pos h0]
   have := ih (m / 128) (by rw [Nat.pow_succ] at h; omega)
   simp
   omega
theorem digits_length (n : Nat) (h : n < 9223372036854775808) : (digits n).length ≤ 9 := by
 unfold digits
 have := hi_length (n / 128) 8 (by omega)
 simp
 omega
theorem digits_pos (n : Nat) : 0 < (digits n).length := by simp [digits]
theorem digits_small {n : Nat} (h : n < 128) : digits n = [UInt8.ofNat n] := by
 unfold digits
 rw [Nat.div_eq_of_lt h, hi_zero, Nat.mod_eq_of_lt h]
 rfl
theorem shift_succ (N k : Nat) : N / 2 ^ (7 * (k + 1)) = N / 2 ^ (7 * k) / 128 := by
 rw [Nat.mul_add, Nat.pow_add, Nat.div_div_eq_div_mul]
theorem shift_anti (N : Nat) {j k : Nat} (h : j ≤ k) : N / 2 ^ (7 * k) ≤ N / 2 ^ (7 * j) :=
 Nat.div_le_div_left (Nat.pow_le_pow_right (by decide) (by omega)) (Nat.two_pow_pos _)
theorem hi_step (N k q : Nat) (hq : q < k) (hk : 1 ≤ N / 2 ^ (7 * k)) :
  hi (N / 2 ^ (7 * (k + 1 - q))) ++ [UInt8.ofNat (N / 2 ^ (7 * (k - q)) % 128 + 128)] = hi (N / 2 ^ (7 * (k + 1 - (q + 1)))) := by
 have e : k + 1 - q = (k - q) + 1 := by omega
 have e2 : k + 1 - (q + 1) = k - q := by omega
 rw [e, e2, shift_succ, ← hi_pos]
 have := shift_anti N (show k - q ≤ k by omega)
 omega
theorem hi_start (N k : Nat) (h : N / 2 ^ (7 * k) < 128) : hi (N / 2 ^ (7 * (k + 1 - 0))) = [] := by
 rw [Nat.sub_zero, shift_succ, Nat.div_eq_of_lt h, hi_zero]
theorem hi_end (N k : Nat) : hi (N / 2 ^ (7 * (k + 1 - k))) = hi (N / 128) := by
 rw [show k + 1 - k = 1 by omega]
theorem count_le (N k : Nat) (hN : N < 9223372036854775808) (h : 1 ≤ N / 2 ^ (7 * k)) : k ≤ 8 := by
 by_cases hk : k ≤ 8
 ·exact hk
 ·have := shift_anti N (show 9 ≤ k by omega)
  have h9 : N / 2 ^ (7 * 9) = 0 := Nat.div_eq_of_lt (by simpa using hN)
  omega
theorem or_all : ∀ y : Fin 256, bits BinOp.or IntKind.u8 ((y.val : Nat) : Int) 128 = ((y.val % 128 + 128 : Nat) : Int) := by decide +kernel
theorem and_all : ∀ y : Fin 256, bits BinOp.and IntKind.u8 ((y.val : Nat) : Int) 127 = ((y.val % 128 : Nat) : Int) := by decide +kernel
theorem or_byte (X : Nat) : bits BinOp.or IntKind.u8 ((X : Int) % 256) 128 = ((UInt8.ofNat (X % 128 + 128)).toNat : Int) := by
 have h := or_all ⟨X % 256, Nat.mod_lt _ (by decide)⟩
 have e : ((X : Int) % 256) = ((X % 256 : Nat) : Int) := by simp
 rw [e, h]
 simp
 omega
theorem and_byte (X : Nat) : bits BinOp.and IntKind.u8 ((X : Int) % 256) 127 = ((UInt8.ofNat (X % 128)).toNat : Int) := by
 have h := and_all ⟨X % 256, Nat.mod_lt _ (by decide)⟩
 have e : ((X : Int) % 256) = ((X % 256 : Nat) : Int) := by simp
 rw [e, h]
 simp
 omega
end Go.Proofs.YtgbdjcekpdfpjaaGreatDoor
namespace Go.Proofs.YtgbdjcekpdfpjaaGreatDoor
set_option maxRecDepth 20000
set_option maxHeartbeats 400000
open Go.RowKit
theorem Tryz.info5 : (Tryz.prog.info? 5).map (fun i => (i.zero, i.size, i.bytes)) = some (some (.int .u8 0), 1, 1) := by kernel_rfl
theorem sclone_any {w : World} {v : Value} {l : List UInt8} (h : By w v l) (hl : l.length ≤ 140737488355328) :
  Calls Tryz.prog 40 #[v] w fun e w' => ∃ v', e = .returned v' ∧ Own w.heap.size w' v' l ∧ Below w.heap.size w w' := by
 obtain ⟨p, c, rfl, hlc, hm, hn, hc⟩ := h
 have q22 : ∀ (w : World) (a : Option Addr) (n c n' c' : Nat), (binOp .eql 40 (.slice a n c) (.slice none n' c')).run Tryz.prog w = .ok (.bool a.isNone) w := fun w a n c n' c' => Lib.run_eql_slice_nil w _ _ a n c n' c' Tryz.underlying40
 rcases p with _ | a
 ·obtain rfl : l = [] := List.eq_nil_of_length_eq_zero (by have := hn rfl; omega)
  go_enter Tryz.func40, Tryz.ntmps40
  go_wp2
  go_ret
  exact ⟨_, rfl, Own.nil _ _, Below.refl _ _⟩
 ·obtain ⟨i0, hi, hz0, hz1, hz2⟩ := info_parts Tryz.info5
  have A := hide hc
  clear hc
  go_enter Tryz.func40, Tryz.ntmps40
  go_wp2_with (at_builtin; refine wpList_append_own _ rfl _ _ 40 rfl w.heap.size 5 i0 (.int .u8 0) 1 1 Tryz.underlying40 hi hz0 hz1 hz2 rfl (by decide) _ _ _ rfl (World.ownsRow_made w #[] 0 (Nat.le_refl _) (Nat.zero_le _) rfl) a l.length c (l.map bv) rfl ?qc1 ?qc2 ?qc3 ?qc4 ?qc5 ?qc6 ?_)
  case qc1 => simp
  case qc2 =>
   intro j u hj
   rw [List.getElem?_map] at hj
   obtain ⟨x, hx, rfl⟩ := Option.map_eq_some_iff.1 hj
   exact Lib.cell?_alloc_some _ (A.out a rfl j x hx)
  case qc3 => intro u hu; obtain ⟨x, _, rfl⟩ := List.mem_map.1 hu; rfl
  case qc4 => simp only [maxLen]; omega
  case qc5 => omega
  case qc6 => simp
  intro v' w1 hown hgrow hnil
  go_wp2
  go_ret
  refine ⟨v', rfl, Own.of_row (by simpa using hown), ?_⟩
  exact ((Below.refl _ w).alloc (Nat.le_refl _) _).grown hgrow (by simp) (by intro k hk; simp [Value.ownBlock] at hk; omega)
def lim : Nat := 9223372036854775808
theorem cell_new1 (w : World) (u : Value) (t : TypeId) : ∀ j x, ([u] : List Value)[j]? = some x → (w.alloc (.cells #[u] t)).cell? ((⟨w.heap.size, 0, none⟩ : Addr).add j) = some x := cell_one_new _ _ _
theorem cell_new2 (w : World) (n : Nat) (hn : w.heap.size = n) (u : Value) (t : TypeId) : ∀ j x, ([u] : List Value)[j]? = some x → (w.alloc (.cells #[u] t)).cell? ((⟨n, 0, none⟩ : Addr).add j) = some x := by
 subst hn
 exact cell_one_new _ _ _
theorem one_cell1 (k : IntKind) (x : Int) : ∀ u ∈ [Value.int k x], u.oneCell' = true := by intro u hu; simp at hu; subst hu; rfl
theorem below_row {B : Nat} {a w w' : World} {v : Value} {e : TypeId} {n : Nat} {xs : List Value} (h : Below B a w) (hg : w.grownBy w' v.ownBlock) (hB : B ≤ w.heap.size) (hown : w.ownsRow B e 1 v n xs) : Below B a w' :=
 h.grown hg hB fun k hk => (hown.lt k hk).1
theorem groups_any (n : Int) (N : Nat) (hN : max n 0 = (N : Int)) (hn2 : N < lim) (w : World) :
  Calls Tryz.prog 150 #[.int .i64 n] w fun e w' => ∃ v', e = .returned v' ∧ Own w.heap.size w' v' (digits N) ∧ Below w.heap.size w w' := by
 obtain ⟨i0, hi0, hz0, hz1, hz2⟩ := info_parts Tryz.info5
 go_enter Tryz.func150, Tryz.ntmps150
 go_wp2
 go_loop [3] (fun f => ∃ k : Nat, k ≤ 8 ∧ (0 < k → 1 ≤ N / 2 ^ (7 * k)) ∧ f = .int .i64 k) (fun f => 9 - (intOf f).toNat)
 case atStart => exact ⟨0, by omega, fun h => by omega, rfl⟩
 case round =>
  obtain ⟨k, hk, hpos, rfl⟩ := hrel
  have HP := hide hpos
  clear hpos
  by_cases ht : (128 : Int) ≤ (N : Int) / 2 ^ (7 * k)
  ·have ht' : 1 ≤ N / 2 ^ (7 * (k + 1)) := by
    rw [shift_succ]
    have : ((N / 2 ^ (7 * k) : Nat) : Int) = (N : Int) / 2 ^ (7 * k) := by simp
    omega
   have hk8 := count_le N (k + 1) hn2 ht'
   have HT := hide ht'
   clear ht'
   go_wp2
   go_round
   case rel => exact ⟨k + 1, hk8, fun _ => HT.out, by go_num⟩
   case measure => simp [intOf]; omega
  ·have ht' : N / 2 ^ (7 * k) < 128 := by
    have : ((N / 2 ^ (7 * k) : Nat) : Int) = (N : Int) / 2 ^ (7 * k) := by simp
    omega
   have HT := hide ht'
   clear ht'
   go_wp2_with (at_make; refine wpList_make_own _ rfl _ _ 40 rfl w.heap.size 5 i0 (.int .u8 0) 1 Tryz.underlying40 hi0 hz0 hz1 .i64 .i64 9 9 rfl rfl rfl (by omega) (by decide) (Nat.le_refl _) ?_; intro w1 hown1 hg1)
   go_loopw [4, 5, 17] (fun v i j wr => ∃ (q : Nat) (l : List UInt8), q ≤ k ∧ j = .int .i64 q ∧ l = hi (N / 2 ^ (7 * (k + 1 - q))) ∧ l.length ≤ q ∧ wr.ownsRow w.heap.size 5 1 v l.length (l.map bv) ∧ Below w.heap.size w wr) (fun _ _ j _ => k - (intOf j).toNat)
   case atStart =>
    refine ⟨0, [], by omega, rfl, ?_, by simp, hown1, (Below.refl _ _).grown hg1 (Nat.le_refl _) (fun g h => by cases h)⟩
    rw [hi_start N k HT.out]
   case round =>
    obtain ⟨q, l, hq, rfl, hl, hlq, hown, hb⟩ := hrel
    have HL := hide hl
    clear hl hown1 hg1
    have hbs := hb.size
    by_cases hqk : q < k
    ·go_wp2_with (at_builtin; refine wpList_append_own _ rfl _ _ 40 rfl w.heap.size 5 i0 (.int .u8 0) 1 1 Tryz.underlying40 hi0 hz0 hz1 hz2 rfl (by decide) _ _ _ rfl (hown.alloc _) ⟨wr.heap.size, 0, none⟩ 1 1 [Value.int IntKind.u8 (bits BinOp.or IntKind.u8 ((N : Int) / 2 ^ (7 * (k - q)) % 256) 128)] rfl rfl (cell_new1 _ _ _) (one_cell1 _ _) (by simp only [maxLen]; omega) (by omega) (by simp; omega) ?_; intro v2 w2 hown2 hg2 _)
     have hb2 := below_row (hb.alloc hbs _) hg2 (by simp; omega) (hown.alloc _)
     have e : bits BinOp.or IntKind.u8 ((N : Int) / 2 ^ (7 * (k - q)) % 256) 128 = ((UInt8.ofNat (N / 2 ^ (7 * (k - q)) % 128 + 128)).toNat : Int) := by
      rw [← or_byte]; simp
     rw [e] at hown2
     have R : w2.ownsRow w.heap.size 5 1 v2 (l ++ [UInt8.ofNat (N / 2 ^ (7 * (k - q)) % 128 + 128)]).length ((l ++ [UInt8.ofNat (N / 2 ^ (7 * (k - q)) % 128 + 128)]).map bv) := by
      simpa [bv] using hown2
     have HR := hide R
     clear hown2 R hown hg2 e
     go_wp2
     go_roundw
     case rel =>
      refine ⟨q + 1, _, by omega, by go_num, ?_, ?_, HR.out, hb2⟩
      ·rw [HL.out]; exact hi_step N k q hqk (HP.out (by omega))
      ·simp; omega
     case measure => simp [intOf]; omega
    ·obtain rfl : q = k := by omega
     go_wp2_with (at_builtin; refine wpList_append_own _ rfl _ _ 40 rfl w.heap.size 5 i0 (.int .u8 0) 1 1 Tryz.underlying40 hi0 hz0 hz1 hz2 rfl (by decide) _ _ _ rfl (hown.alloc _) ⟨wr.heap.size, 0, none⟩ 1 1 [Value.int IntKind.u8 (bits BinOp.and IntKind.u8 ((N : Int) % 256) 127)] rfl rfl (cell_new1 _ _ _) (one_cell1 _ _) (by simp only [maxLen]; omega) (by omega) (by simp; omega) ?_; intro v2 w2 hown2 hg2 _)
     have hb2 := below_row (hb.alloc hbs _) hg2 (by simp; omega) (hown.alloc _)
     rw [and_byte N] at hown2
     have R : w2.ownsRow w.heap.size 5 1 v2 (l ++ [UInt8.ofNat (N % 128)]).length ((l ++ [UInt8.ofNat (N % 128)]).map bv) := by
      simpa [bv] using hown2
     have O := Own.of_row R
     rw [HL.out, hi_end] at O
     have HO := hide O
     clear hown2 R hown hg2 O
     go_wp2
     go_ret
     exact ⟨v2, rfl, HO.out, hb2⟩
end Go.Proofs.YtgbdjcekpdfpjaaGreatDoor
namespace Go.Proofs.YtgbdjcekpdfpjaaGreatDoor
open Go.RowKit
theorem lim_le {N : Nat} (h : N < lim) : (N : Int) ≤ 9223372036854775807 := by unfold lim at h; omega
set_option maxRecDepth 20000 in
set_option maxHeartbeats 400000 in
theorem digits_any : ∀ (N : Nat) (n : Int) (_ : max n 0 = (N : Int)) (_ : N < lim) (w : World),
  Calls Tryz.prog 127 #[.int .i64 n] w fun e w' => ∃ v', e = .returned v' ∧ w'.ownsRow w.heap.size 5 1 v' (digits N).length ((digits N).map bv) ∧ Below w.heap.size w w' := by
 intro N
 induction N using Nat.strongRecOn with
 | _ N ih =>
  intro n hN hn2 w
  obtain ⟨i0, hi0, hz0, hz1, hz2⟩ := info_parts Tryz.info5
  by_cases hs : n < 128
  ·clear ih
   go_enter Tryz.func127, Tryz.ntmps127
   go_wp2
   go_ret
   have hN' : N < 128 := by omega
   refine ⟨_, rfl, ?_, (Below.refl _ _).alloc (Nat.le_refl _) _⟩
   rw [digits_small hN']
   have h := World.ownsRow_lit (e := 5) (size := 1) w #[bv (UInt8.ofNat N)] 1 (Nat.le_refl _) (by decide) rfl
   have e : bv (UInt8.ofNat N) = .int .u8 (N : Int) := by
    unfold bv
    simp
    omega
   simpa [e] using h
  ·obtain rfl : n = (N : Int) := by omega
   have hbd := lim_le hn2
   have hd := digits_length (N / 128) (by unfold lim at hn2; omega)
   have hp := digits_pos (N / 128)
   have IH := hide (ih (N / 128) (by omega) ((N : Int) / 128) (by omega) (by unfold lim at *; omega))
   clear ih hN
   go_enter Tryz.func127, Tryz.ntmps127
   go_wp2_with fail
   refine (IH.out _).mono ?_
   rintro e w1 ⟨v1, rfl, hown, hb⟩
   obtain ⟨g, cap, rfl, hg, hlt⟩ := hown.form hp
   obtain ⟨m, hm⟩ : ∃ m, (digits (N / 128)).length = m := ⟨_, rfl⟩
   rw [hm] at hown hd hp
   rw [hm]
   have hlast : (digits (N / 128))[m - 1]? = some (UInt8.ofNat (N / 128 % 128)) := by
    rw [← hm]
    unfold digits
    simp
   have hc := hown.cellAt (m - 1) (by omega)
   have e1 : bv (UInt8.ofNat (N / 128 % 128)) = .int .u8 ((N : Int) / 128 % 128) := by
    unfold bv
    simp
    omega
   have e2 : bv (UInt8.ofNat (N / 128 % 128 + 128)) = .int .u8 ((N : Int) / 128 % 128 + 128) := by
    unfold bv
    simp
    omega
   have e3 : bv (UInt8.ofNat (N % 128)) = .int .u8 ((N : Int) % 128) := by
    unfold bv
    simp
    omega
   rw [List.getElem?_map, hlast, Option.map_some, e1] at hc
   have hf := hown.frozenAt (m - 1)
   have hst := hown.stored (m - 1) (.int .u8 ((N : Int) / 128 % 128 + 128))
   have hset : (digits (N / 128)).set (m - 1) (UInt8.ofNat (N / 128 % 128 + 128)) = hi (N / 128) := by
    rw [← hm, hi_pos (by omega)]
    unfold digits
    simp
   have hdig : digits N = hi (N / 128) ++ [UInt8.ofNat (N % 128)] := rfl
   have hlen : (digits N).length = m + 1 := by rw [hdig, ← hset]; simp [hm]
   have hs2 := hst.2
   have hs1 := hst.1
   have hb1 : Below w.heap.size w (w1.setCell ⟨g, m - 1, none⟩ (.int .u8 ((N : Int) / 128 % 128 + 128))) := hb.setCell (p := ⟨g, m - 1, none⟩) hg _
   have hbs := hb1.size
   have HB1 := hide hb1
   have HS1 := hide hs1
   have H2 := hide e2
   have H3 := hide e3
   have HSET := hide hset
   have HDIG := hide hdig
   have HLEN := hide hlen
   clear hlast hm hst hown hs1 hs2 e1 e2 e3 hset hdig hlen hb1
   go_wp2_with (at_builtin; go_must (refine wpList_append_own _ rfl _ _ 40 rfl w.heap.size 5 i0 (.int .u8 0) 1 1 Tryz.underlying40 hi0 hz0 hz1 hz2 rfl (by decide) _ _ _ rfl (HS1.out.alloc _) ⟨w1.heap.size, 0, none⟩ 1 1 [Value.int IntKind.u8 ((N : Int) % 128)] rfl rfl (cell_new2 _ _ (by simp [World.setCell]) _ _) (one_cell1 _ _) (by simp only [maxLen]; omega) (by omega) (by simp; omega) ?_); intro v2 w2 hown2 hg2 _)
   go_ret
   refine ⟨v2, rfl, ?_, below_row (HB1.out.alloc hbs _) hg2 (by simp; omega) (HS1.out.alloc _)⟩
   rw [HLEN.out, HDIG.out, ← HSET.out, List.map_append, List.map_set, List.map_cons, List.map_nil, H2.out, H3.out]
   exact hown2
end Go.Proofs.YtgbdjcekpdfpjaaGreatDoor
namespace Go.Proofs.YtgbdjcekpdfpjaaGreatDoor
open Go.RowKit
theorem below_setCells' {B b : Nat} {a : World} (hb : B ≤ b) : ∀ (vs : List Value) (o : Nat) {w : World}, Below B a w → Below B a (w.setCells b o vs)
 | [], _, _, h => h
 | _ :: vs, o, _, h => below_setCells' hb vs (o + 1) (h.setCell (p := ⟨b, o, none⟩) hb _)
theorem grown_setCells (b : Nat) : ∀ (vs : List Value) (o : Nat) (w : World), w.grownBy (w.setCells b o vs) (some b)
 | [], _, w => World.grownBy.refl w _
 | v :: vs, o, w => by
  have h1 : w.grownBy (w.setCell ⟨b, o, none⟩ v) (some b) := ⟨rfl, rfl, rfl, by simp [World.setCell], fun k _ hk => heap_setCell_other w ⟨b, o, none⟩ k v (fun e => hk (by simp [e]))⟩
  have h2 := grown_setCells b vs (o + 1) (w.setCell ⟨b, o, none⟩ v)
  exact ⟨h2.os.trans h1.os, h2.tape.trans h1.tape, h2.output.trans h1.output, Nat.le_trans h1.size h2.size, fun k hk hne => (h2.block k (Nat.lt_of_lt_of_le hk h1.size) hne).trans (h1.block k hk hne)⟩
theorem oneCell_bytes (l : List UInt8) : ∀ u ∈ l.map bv, u.oneCell' = true := by
 intro u hu
 obtain ⟨x, _, rfl⟩ := List.mem_map.1 hu
 rfl
theorem run_append_empty {w : World} {v : Value} {l : List UInt8} {B : Nat} (hv : Own B w v l) (p : Option Addr) (c : Nat) : (Builtin.append_ #[40, 40] 40 #[v, .slice p 0 c]).run Tryz.prog w = .ok v w := by
 obtain ⟨i0, hi0, hz0, hz1, hz2⟩ := info_parts Tryz.info5
 rcases hv with ⟨rfl, rfl⟩ | ⟨g, cap, rfl, _, hl, _⟩
 ·cases p <;> simp [Builtin.append_, run_underlying Tryz.underlying40, Go.sizeOf, typeInfo, hi0, Builtin.lenOf, Builtin.firstCells, loadCells, loadCellsFrom]
 ·cases p <;> simp [Builtin.append_, run_underlying Tryz.underlying40, Go.sizeOf, typeInfo, hi0, Builtin.lenOf, Builtin.firstCells, hl, storeCells, loadCells, loadCellsFrom]
theorem run_append_by {w : World} {B : Nat} {v x : Value} {l m : List UInt8} (hv : Own B w v l) (hx : By w x m) (hs : l.length + m.length ≤ 140737488355328) (hB : B ≤ w.heap.size) :
  ∃ v' w', (Builtin.append_ #[40, 40] 40 #[v, x]).run Tryz.prog w = .ok v' w' ∧ Own B w' v' (l ++ m) ∧ w.grownBy w' v.ownBlock ∧ Below B w w' ∧ (∀ k, v'.ownBlock = some k → v.ownBlock = some k ∨ w.heap.size ≤ k) := by
 obtain ⟨i0, hi0, hz0, hz1, hz2⟩ := info_parts Tryz.info5
 obtain ⟨p, c, rfl, hlc, hm, hn, hc⟩ := hx
 have hbv : Below B w w := Below.refl _ _
 by_cases h0 : m = []
 ·subst h0
  exact ⟨v, w, run_append_empty hv p c, by simpa using hv, World.grownBy.refl w _, Below.refl _ _, fun k hk => .inl hk⟩
 ·have hpos : 0 < m.length := List.length_pos_iff.2 h0
  rcases p with _ | ad
  ·have := hn rfl
   omega
  ·have hnews : ∀ j u, (m.map bv)[j]? = some u → w.cell? (ad.add j) = some u := fun j u hj => by
    rw [List.getElem?_map] at hj
    obtain ⟨x, hx, rfl⟩ := Option.map_eq_some_iff.1 hj
    exact hc ad rfl j x hx
   have hnl : (m.map bv).length = m.length * 1 := by simp
   rcases hv with ⟨rfl, rfl⟩ | ⟨g, cap, rfl, hBg, hl, hcm, hcell, hsome, hfr⟩
   ·obtain ⟨v', w', hrun, ho, hg, _, hat⟩ := run_append_own_at (P := Tryz.prog) w B 40 40 5 i0 (.int .u8 0) 1 1 Tryz.underlying40 hi0 hz0 hz1 hz2 rfl (by decide) (.slice none 0 0) 0 [] (World.ownsRow_nil _ _ _ _) ad m.length c (m.map bv) hnl hnews (oneCell_bytes m) (by simp only [maxLen]; omega) (by omega) hB
    refine ⟨v', w', hrun, Own.of_row (by simpa using ho), hg, hbv.grown hg hB (fun k hk => by simp [Value.ownBlock] at hk), fun k hk => by
     rcases hat with e | e
     ·exact .inl (e ▸ hk)
     ·rw [e] at hk
      injection hk with hk
      exact .inr (by omega)⟩
   ·by_cases hroom : l.length + m.length ≤ cap
    ·have hr := run_append_room_cells (P := Tryz.prog) w 40 40 5 i0 Tryz.underlying40 hi0 g 0 l.length cap ad m.length c (m.map bv) (by rw [hz1]; exact hnl) hnews (oneCell_bytes m) hroom
      (fun j hj => by rw [hz1]; simp only [Nat.zero_add, Nat.mul_one]; exact hsome _ (by simp at hj; omega)) (fun j hj => by rw [hz1]; simp only [Nat.zero_add, Nat.mul_one]; exact hfr _ (by simp at hj; omega))
     rw [hz1] at hr
     simp only [Nat.zero_add, Nat.mul_one] at hr
     have hlen : (l ++ m).length = l.length + m.length := by simp
     refine ⟨_, _, hr, .inr ⟨g, cap, by rw [hlen], hBg, by omega, hcm, ?_, ?_, ?_⟩, by simpa [Value.ownBlock] using grown_setCells g (m.map bv) l.length w, below_setCells' hBg _ _ hbv, fun k hk => .inl hk⟩
     ·intro i y hy
      by_cases hi : i < l.length
      ·rw [List.getElem?_append_left hi] at hy
       rw [World.cell?_setCells_out g _ _ _ _ (fun _ _ => .inl hi)]
       exact hcell i y hy
      ·rw [List.getElem?_append_right (by omega)] at hy
       have hj := (List.getElem?_eq_some_iff.1 hy).1
       have h := World.cell?_setCells_in g (m.map bv) l.length w (fun j hj => hsome _ (by simp at hj; omega)) (i - l.length) (by simp; omega)
       rw [show l.length + (i - l.length) = i by omega] at h
       rw [h, List.getElem_map]
       have := (List.getElem?_eq_some_iff.1 hy).2
       rw [this]
     ·intro i hi
      exact World.isSome_setCells g _ _ _ _ (hsome i hi)
     ·intro i hi
      rw [World.frozen?_setCells]
      exact hfr i hi
    ·obtain ⟨v', w', hrun, ho, hg⟩ := run_append_arg_grows (P := Tryz.prog) w 40 40 5 i0 (.int .u8 0) 1 1 Tryz.underlying40 hi0 hz0 hz1 hz2 rfl (by decide) ⟨g, 0, none⟩ l.length cap (l.map bv) (by simp) (fun j u hj => by
       rw [List.getElem?_map] at hj
       obtain ⟨y, hy, rfl⟩ := Option.map_eq_some_iff.1 hj
       rw [add_lit0, Nat.zero_add]
       exact hcell j y hy) ad m.length c (m.map bv) hnl hnews (by omega) (by simp only [maxLen]; omega) (by omega)
     have hB' : Below B w w' := hbv.grown hg hB (fun k hk => by cases hk)
     have ho' : w'.ownsRow w.heap.size 5 1 v' (l ++ m).length ((l ++ m).map bv) := by simpa using ho
     exact ⟨v', w', hrun, (Own.of_row ho').mono hB, ⟨hg.os, hg.tape, hg.output, hg.size, fun k hk _ => hg.block k hk (by simp)⟩, hB', fun k hk => .inr (ho'.lt k hk).1⟩
theorem wpList_append_by {w : World} {ops : Array Oper} {rest : List Oper} {o : Oper} {a : Act} {Q : Exit → Act → World → Prop} (hgd : o.guard = none) (s x : Operand)
  (ho : o.op = .call { callee := .builtin .append, args := #[s, x], argTypes := #[40, 40] }) (hty : o.type = 40) {B : Nat} {v y : Value} {l m : List UInt8}
  (hs : a.eval s = v) (hy : a.eval x = y) (hv : Own B w v l) (hx : By w y m) (hl : l.length + m.length ≤ 140737488355328) (hB : B ≤ w.heap.size)
  (h : ∀ v' w', Own B w' v' (l ++ m) → w.grownBy w' v.ownBlock → Below B w w' → (∀ k, v'.ownBlock = some k → v.ownBlock = some k ∨ w.heap.size ≤ k) → wpList Tryz.prog ops Q rest (a.put o.dst v') w') : wpList Tryz.prog ops Q (o :: rest) a w := by
 obtain ⟨v', w', hr, h1, h2, h3, h4⟩ := run_append_by hv hx hl hB
 exact Lib.wpList_append_run_sl w hgd s x 40 ho v y hs hy (by rw [hty]; exact hr) (h v' w' h1 h2 h3 h4)
theorem run_append_row_by {w : World} {B : Nat} {v x : Value} {l m : List UInt8} (hv : w.ownsRow B 5 1 v l.length (l.map bv)) (hx : By w x m) (hs : l.length + m.length ≤ 140737488355328) (hB : B ≤ w.heap.size) :
  ∃ v' w', (Builtin.append_ #[40, 40] 40 #[v, x]).run Tryz.prog w = .ok v' w' ∧ w'.ownsRow B 5 1 v' (l ++ m).length ((l ++ m).map bv) ∧ Below B w w' := by
 obtain ⟨i0, hi0, hz0, hz1, hz2⟩ := info_parts Tryz.info5
 obtain ⟨p, c, rfl, hlc, hm, hn, hc⟩ := hx
 by_cases h0 : m = []
 ·subst h0
  exact ⟨v, w, run_append_empty (Own.of_row hv) p c, by simpa using hv, Below.refl _ _⟩
 ·have hpos : 0 < m.length := List.length_pos_iff.2 h0
  rcases p with _ | ad
  ·have := hn rfl
   omega
  ·obtain ⟨v', w', hrun, ho, hg, _, hat⟩ := run_append_own_at (P := Tryz.prog) w B 40 40 5 i0 (.int .u8 0) 1 1 Tryz.underlying40 hi0 hz0 hz1 hz2 rfl (by decide) v l.length (l.map bv) hv ad m.length c (m.map bv) (by simp) (fun j u hj => by
    rw [List.getElem?_map] at hj
    obtain ⟨x, hx, rfl⟩ := Option.map_eq_some_iff.1 hj
    exact hc ad rfl j x hx) (oneCell_bytes m) (by simp only [maxLen]; omega) (by omega) hB
   exact ⟨v', w', hrun, by simpa using ho, (Below.refl _ _).grown hg hB fun k hk => (hv.lt k hk).1⟩
theorem wpList_append_row_by {w : World} {ops : Array Oper} {rest : List Oper} {o : Oper} {a : Act} {Q : Exit → Act → World → Prop} (hgd : o.guard = none) (s x : Operand)
  (ho : o.op = .call { callee := .builtin .append, args := #[s, x], argTypes := #[40, 40] }) (hty : o.type = 40) {B : Nat} {v y : Value} {l m : List UInt8}
  (hs : a.eval s = v) (hy : a.eval x = y) (hv : w.ownsRow B 5 1 v l.length (l.map bv)) (hx : By w y m) (hl : l.length + m.length ≤ 140737488355328) (hB : B ≤ w.heap.size)
  (h : ∀ v' w', w'.ownsRow B 5 1 v' (l ++ m).length ((l ++ m).map bv) → Below B w w' → wpList Tryz.prog ops Q rest (a.put o.dst v') w') : wpList Tryz.prog ops Q (o :: rest) a w := by
 obtain ⟨v', w', hr, h1, h2⟩ := run_append_row_by hv hx hl hB
 exact Lib.wpList_append_run_sl w hgd s x 40 ho v y hs hy (by rw [hty]; exact hr) (h v' w' h1 h2)
end Go.Proofs.YtgbdjcekpdfpjaaGreatDoor
namespace Go.Proofs.YtgbdjcekpdfpjaaGreatDoor
set_option maxRecDepth 20000
set_option maxHeartbeats 400000
open Go.RowKit
theorem row_made0 (w : World) : (w.alloc (.cells #[] 5)).ownsRow w.heap.size 5 1 (.slice (some ⟨w.heap.size, 0, none⟩) 0 0) ([] : List UInt8).length (([] : List UInt8).map bv) := World.ownsRow_made w #[] 0 (Nat.le_refl _) (Nat.zero_le _) rfl
theorem row_below {w w' : World} {B n : Nat} {e : TypeId} {v : Value} {xs : List Value} (h : w.ownsRow B e 1 v n xs) (hb : Below w.heap.size w w') : w'.ownsRow B e 1 v n xs :=
 h.kept (row := none) ⟨hb.os, hb.tape, hb.output, hb.size, fun k hk _ => hb.block k hk⟩ (by cases v.ownBlock <;> simp)
theorem refNumber_any {w : World} {v : Value} {l : List UInt8} (hv : By w v l) (hl : l.length ≤ 140737488000000) (n : Int) (N : Nat) (hN : max n 0 = (N : Int)) (hn2 : N < lim) :
  Calls Tryz.prog 102 #[v, .int .i64 n] w fun e w' => ∃ v', e = .returned v' ∧ w'.ownsRow w.heap.size 5 1 v' (l ++ digits N).length ((l ++ digits N).map bv) ∧ Below w.heap.size w w' := by
 have hd := digits_length N hn2
 have HV := hide hv
 have HN := hide hN
 clear hv hN
 go_enter Tryz.func102, Tryz.ntmps102
 go_wp2_with (at_builtin; go_must (refine wpList_append_row_by rfl _ _ rfl rfl rfl rfl (row_made0 w) (HV.out.alloc _) (by simp; omega) (by simp) ?_); intro v1 w1 hown1 hb1)
 refine (digits_any N n HN.out hn2 _).mono ?_
 rintro e w2 ⟨v2, rfl, hown2, hb2⟩
 have h1 := row_below hown1 hb2
 have h2 := (Own.of_row hown2).by_
 have hb12 : Below w.heap.size w w1 := ((Below.refl _ w).alloc (Nat.le_refl _) _).trans hb1
 have hb : Below w.heap.size w w2 := hb12.trans (hb2.mono hb12.size)
 have hbs := hb.size
 have H1 := hide h1
 have H2 := hide h2
 have HB := hide hb
 clear hown1 hown2 h1 h2 hb1 hb2 hb12 hb
 go_wp2_with (at_builtin; go_must (refine wpList_append_row_by rfl _ _ rfl rfl rfl rfl H1.out H2.out (by simp; omega) hbs ?_); intro v3 w3 hown3 hb3)
 go_ret
 exact ⟨v3, rfl, hown3, HB.out.trans hb3⟩
theorem By.sl {w : World} {v : Value} {l : List UInt8} (h : By w v l) : ∃ p n c, v = .slice p n c := by
 obtain ⟨p, c, e, _⟩ := h
 exact ⟨p, _, c, e⟩
theorem By.len {w : World} {p : Option Addr} {n c : Nat} {l : List UInt8} (h : By w (.slice p n c) l) : n = l.length ∧ n ≤ c := by
 obtain ⟨p', c', e, hl, _⟩ := h
 injection e with _ e2 e3
 subst e2 e3
 exact ⟨rfl, hl⟩
theorem by_of_row {w : World} {a : Option Addr} {len cap : Nat} {zs : List Int}
  (h : (a = none ∧ len = 0 ∧ cap = 0 ∧ zs = []) ∨ ∃ x, a = some x ∧ len ≤ cap ∧ cap ≤ maxLen ∧ zs.length = cap ∧ (∀ i, i < zs.length → w.cell? (x.add i) = some (.int .u8 (zs.getD i 0))) ∧ ∀ n ∈ zs, (Lit.int .u8 n).wf = true) :
  ∃ l : List UInt8, l.length = len ∧ By w (.slice a len cap) l := by
 rcases h with ⟨rfl, rfl, rfl, rfl⟩ | ⟨x, rfl, hl, hm, hz, hc, hw⟩
 ·exact ⟨[], rfl, By.nil w⟩
 ·have hln : (Lib.bytesOf (zs.take len)).length = len := by simp [Lib.bytesOf]; omega
  refine ⟨Lib.bytesOf (zs.take len), hln, some x, cap, by rw [hln], by rw [hln]; exact hl, hm, (fun e => by cases e), fun b e i y hy => ?_⟩
  injection e with e
  subst e
  have hi : i < len := by rw [← hln]; exact (List.getElem?_eq_some_iff.1 hy).1
  rw [hc i (by omega)]
  have hiz : i < zs.length := by omega
  simp only [Lib.bytesOf, List.getElem?_map, List.getElem?_take, hi, if_true, List.getElem?_eq_getElem hiz, Option.map_some, Option.some.injEq] at hy
  have hwf := hw zs[i] (List.getElem_mem hiz)
  have h1 : IntKind.u8.min = 0 := rfl
  have h2 : IntKind.u8.max = 255 := rfl
  simp only [Lit.wf, Bool.and_eq_true, decide_eq_true_eq] at hwf
  simp only [List.getD, List.getElem?_eq_getElem hiz, Option.getD_some, Option.some.injEq, bv, Value.int.injEq, true_and]
  rw [← hy]
  simp
  omega
theorem joinTail_nil (r : List (List UInt8)) : Lib.joinTail [] r = r.flatten := by
 unfold Lib.joinTail
 congr 1
 conv => rhs; rw [← List.map_id r]
 apply List.map_congr_left
 intro x _
 rfl
theorem join_flatten (ls : List (List UInt8)) : Lib.join ls [] = ls.flatten := by
 cases ls with
 | nil => rfl
 | cons x r => rw [Lib.join_cons, joinTail_nil]; rfl
theorem holds_nil (w : World) : Lib.HoldsBytes w (.slice none 0 0) [] := ⟨none, 0, rfl, fun _ => rfl, fun a h => by cases h⟩
theorem join_many {w : World} {b o n c : Nat} {vs : List Value} {ls : List (List UInt8)} (hn : ls.length = n) (h2 : 2 ≤ n) (hP : Lib.PartsAt w ⟨b, o, none⟩ vs ls) (hc : n ≤ c) (hl : Lib.lens ls ≤ 140737488355328) (hn47 : n ≤ 140737488355328) :
  Calls Tryz.prog 115 #[.slice (some ⟨b, o, none⟩) n c] w fun e w' => ∃ v', e = .returned v' ∧ Own w.heap.size w' v' ls.flatten ∧ Below w.heap.size w w' := by
 have H := hide (Tryz.bytes_Join_many b o n c vs ls (.slice none 0 0) [] w hn h2 hP hc (holds_nil w) hn47 (by simpa using hl))
 clear hP hn
 go_enter Tryz.func115, Tryz.ntmps115
 go_wp2_with fail
 refine H.out.mono ?_
 rintro e w1 ⟨v1, rfl, hf, hb⟩
 have HO := hide (Own.of_fresh hf)
 clear hf H
 go_wp2
 go_ret
 exact ⟨v1, rfl, by have := HO.out; rwa [join_flatten] at this, hb⟩
theorem parts_new {w : World} {t : TypeId} {vs : List Value} {ls : List (List UInt8)} (hl : vs.length = ls.length) (h : ∀ (i : Nat) v l, vs[i]? = some v → ls[i]? = some l → By w v l) :
  Lib.PartsAt (w.alloc (.cells vs.toArray t)) ⟨w.heap.size, 0, none⟩ vs ls := by
 refine ⟨hl, fun i v hv => ?_, fun i v l hv hl' => ((h i v l hv hl').alloc _).holds⟩
 rw [add_lit0, Nat.zero_add, cell_of_row _ _ i vs.toArray t (0, 0) (heap_alloc_new w _)]
 simpa using hv
theorem wireNumber_any {w : World} {v : Value} {l : List UInt8} (hv : By w v l) (hl : l.length ≤ 140737488000000) (n : Int) (N : Nat) (hN : max n 0 = (N : Int)) (hn2 : N < lim) :
  Calls Tryz.prog 138 #[v, .int .i64 n] w fun e w' => ∃ v', e = .returned v' ∧ Own w.heap.size w' v' (l ++ digits N) ∧ Below w.heap.size w w' := by
 have hd := digits_length N hn2
 obtain ⟨p0, c0, rfl⟩ := hv.shape
 have HV := hide hv
 have HN := hide hN
 clear hv hN
 go_enter Tryz.func138, Tryz.ntmps138
 go_wp2_with fail
 refine (groups_any n N HN.out hn2 _).mono ?_
 rintro e w1 ⟨v1, rfl, ho, hb⟩
 have hbs := hb.size
 obtain ⟨p1, c1, rfl⟩ := ho.by_.shape
 have HP := hide (parts_new (w := w1) (t := 40) (vs := [.slice p0 l.length c0, .slice p1 (digits N).length c1]) (ls := [l, digits N]) rfl (fun i u m hu hm => by
  match i, hu, hm with
  | 0, hu, hm => simp at hu hm; subst hu hm; exact HV.out.below hb
  | 1, hu, hm => simp at hu hm; subst hu hm; exact ho.by_))
 clear ho
 go_wp2_with fail
 refine (join_many (b := w1.heap.size) (o := 0) (n := 2) (c := 2) rfl (by omega) HP.out (by omega) (by simp [Lib.lens]; omega) (by omega)).mono ?_
 rintro e w2 ⟨v2, rfl, ho2, hb2⟩
 have HO := hide ho2
 clear ho2
 go_wp2
 go_ret
 refine ⟨v2, rfl, (by simpa using HO.out.mono (show w.heap.size ≤ _ by simp; omega)), (hb.alloc hbs _).trans (hb2.mono (by simp; omega))⟩
end Go.Proofs.YtgbdjcekpdfpjaaGreatDoor
namespace Go.Proofs.YtgbdjcekpdfpjaaGreatDoor
open Go.RowKit
theorem By.cellAt {w : World} {p : Option Addr} {n c : Nat} {l : List UInt8} (h : By w (.slice p n c) l) {k : Nat} (hk : k < n) :
  ∃ (b o : Nat) (x : UInt8), p = some ⟨b, o, none⟩ ∧ l[k]? = some x ∧ w.cell? ⟨b, o + k, none⟩ = some (.int .u8 (x.toNat : Int)) := by
 have hn := h.len.1
 obtain ⟨p', c', e, hl, hm, hn', hc⟩ := h
 injection e with e1 e2 e3
 subst e1 e3
 rcases p with _ | a
 ·have := hn' rfl
  omega
 ·have hkl : k < l.length := by omega
  have h1 := hc a rfl k l[k] (List.getElem?_eq_getElem hkl)
  have h00 := hc a rfl 0 l[0] (List.getElem?_eq_getElem (by omega))
  obtain ⟨b, o, spot⟩ := a
  have hsp : spot = none := by
   have h2 := World.cell?_spot h00
   unfold Addr.add at h2
   rw [if_pos rfl] at h2
   exact h2
  subst hsp
  exact ⟨b, o, l[k], rfl, List.getElem?_eq_getElem hkl, by rw [add_lit0] at h1; exact h1⟩
def Bss (w : World) (v : Value) (ls : List (List UInt8)) : Prop :=
 ∃ (p : Option Addr) (c : Nat), v = .slice p ls.length c ∧ ls.length ≤ c ∧ c ≤ maxLen ∧ (p = none → c = 0) ∧
  ∀ a, p = some a → ∀ (i : Nat) l, ls[i]? = some l → ∃ u, w.cell? (a.add i) = some u ∧ By w u l
theorem Bss.nil (w : World) : Bss w (.slice none 0 0) [] := ⟨none, 0, rfl, by simp, by simp [maxLen], fun _ => rfl, fun a h => by cases h⟩
theorem Bss.below {w w' : World} {v : Value} {ls : List (List UInt8)} (h : Bss w v ls) (hb : Below w.heap.size w w') : Bss w' v ls := by
 obtain ⟨p, c, rfl, hl, hm, hn, hc⟩ := h
 refine ⟨p, c, rfl, hl, hm, hn, fun a e i l hi => ?_⟩
 obtain ⟨u, hu, hbu⟩ := hc a e i l hi
 exact ⟨u, (hb.cell (lt_of_cell hu)).trans hu, hbu.below hb⟩
theorem Bss.sl {w : World} {v : Value} {ls : List (List UInt8)} (h : Bss w v ls) : ∃ p n c, v = .slice p n c := by
 obtain ⟨p, c, e, _⟩ := h
 exact ⟨p, _, c, e⟩
theorem Bss.len {w : World} {p : Option Addr} {n c : Nat} {ls : List (List UInt8)} (h : Bss w (.slice p n c) ls) : n = ls.length ∧ n ≤ maxLen ∧ n ≤ c := by
 obtain ⟨p', c', e, hl, hm, _⟩ := h
 injection e with _ e2 e3
 omega
theorem Bss.cellAt {w : World} {p : Option Addr} {n c : Nat} {ls : List (List UInt8)} (h : Bss w (.slice p n c) ls) {k : Nat} (hk : k < n) :
  ∃ (b o : Nat) (q : Option Addr) (m d : Nat) (l : List UInt8), p = some ⟨b, o, none⟩ ∧ ls[k]? = some l ∧ w.cell? ⟨b, o + k, none⟩ = some (.slice q m d) ∧ By w (.slice q m d) l := by
 have hn := h.len.1
 obtain ⟨p', c', e, hl, hm, hn', hc⟩ := h
 injection e with e1 e2 e3
 subst e1 e3
 rcases p with _ | a
 ·have := hn' rfl
  omega
 ·have hkl : k < ls.length := by omega
  obtain ⟨u, h1, hb⟩ := hc a rfl k ls[k] (List.getElem?_eq_getElem hkl)
  obtain ⟨u0, h00, _⟩ := hc a rfl 0 ls[0] (List.getElem?_eq_getElem (by omega))
  obtain ⟨b, o, spot⟩ := a
  have hsp : spot = none := by
   have h2 := World.cell?_spot h00
   unfold Addr.add at h2
   rw [if_pos rfl] at h2
   exact h2
  subst hsp
  obtain ⟨q, m, d, rfl⟩ := hb.sl
  exact ⟨b, o, q, m, d, ls[k], rfl, List.getElem?_eq_getElem hkl, by rw [add_lit0] at h1; exact h1, hb⟩
theorem By.lenMax {w : World} {p : Option Addr} {n c : Nat} {l : List UInt8} (h : By w (.slice p n c) l) : (n : Int) ≤ 9223372036854775807 := by
 obtain ⟨p', c', e, hl, hm, _⟩ := h
 injection e with _ e2 e3
 unfold maxLen at hm
 omega
theorem Bss.of_parts {w : World} {b o n c : Nat} {vs : List Value} {ls : List (List UInt8)} (hn : n = ls.length) (hc : n ≤ c) (hm : c ≤ maxLen) (hl : vs.length = ls.length)
  (hcell : ∀ (i : Nat) v, vs[i]? = some v → w.cell? ⟨b, o + i, none⟩ = some v) (h : ∀ (i : Nat) v l, vs[i]? = some v → ls[i]? = some l → By w v l) : Bss w (.slice (some ⟨b, o, none⟩) n c) ls := by
 subst hn
 refine ⟨_, c, rfl, hc, hm, (fun e => by cases e), fun a e i l hi => ?_⟩
 injection e with e
 subst e
 have hil : i < vs.length := by rw [hl]; exact (List.getElem?_eq_some_iff.1 hi).1
 exact ⟨vs[i], by rw [add_lit0]; exact hcell i _ (List.getElem?_eq_getElem hil), h i _ l (List.getElem?_eq_getElem hil) hi⟩
theorem Bss.new {w : World} {t : TypeId} {n : Nat} {vs : List Value} {ls : List (List UInt8)} (hn : n = ls.length) (hm : n ≤ maxLen) (hl : vs.length = ls.length) (h : ∀ (i : Nat) v l, vs[i]? = some v → ls[i]? = some l → By w v l) :
  Bss (w.alloc (.cells vs.toArray t)) (.slice (some ⟨w.heap.size, 0, none⟩) n n) ls := by
 refine Bss.of_parts hn (Nat.le_refl _) hm hl (fun i v hv => ?_) fun i v l hv hl' => (h i v l hv hl').alloc _
 rw [Nat.zero_add, cell_of_row _ _ i vs.toArray t (0, 0) (heap_alloc_new w _)]
 simpa using hv
theorem Bss.parts {w : World} {b o n c : Nat} {ls : List (List UInt8)} (h : Bss w (.slice (some ⟨b, o, none⟩) n c) ls) : ∃ vs, Lib.PartsAt w ⟨b, o, none⟩ vs ls := by
 have hn := h.len.1
 obtain ⟨p', c', e, hl, hm, hn', hc⟩ := h
 injection e with e1 e2 e3
 subst e1 e3
 refine ⟨(List.range ls.length).map fun i => (w.cell? ⟨b, o + i, none⟩).getD undef, by simp, fun i v hv => ?_, fun i v l hv hl' => ?_⟩
 all_goals
  have hi : i < ls.length := by have := (List.getElem?_eq_some_iff.1 hv).1; simpa using this
  obtain ⟨u, hu, hb⟩ := hc _ rfl i ls[i] (List.getElem?_eq_getElem hi)
  rw [add_lit0] at hu
  simp only [List.getElem?_map, List.getElem?_range hi, Option.map_some, Option.some.injEq, hu, Option.getD_some] at hv
  subst hv
 ·rw [add_lit0]
  exact hu
 ·rw [List.getElem?_eq_getElem hi] at hl'
  injection hl' with hl'
  subst hl'
  exact hb.holds
theorem join_step {w : World} {v : Value} {P : Ending → World → Prop} (h : Calls Tryz.prog 136 #[v, .slice none 0 0] w fun e w' => ∃ v', e = .returned v' ∧ P (.returned v') w') :
  Calls Tryz.prog 115 #[v] w fun e w' => P e w' := by
 have H := hide h
 clear h
 go_enter Tryz.func115, Tryz.ntmps115
 go_wp2_with fail
 refine H.out.mono ?_
 rintro e w1 ⟨v1, rfl, hp⟩
 have HP := hide hp
 clear hp H
 go_wp2
 exact HP.out
theorem flatten_one (l : List UInt8) : [l].flatten = l := by simp
theorem join_any {w : World} {v : Value} {ls : List (List UInt8)} (hv : Bss w v ls) (hl : Lib.lens ls ≤ 140737488355328) (hn47 : ls.length ≤ 140737488355328) :
  Calls Tryz.prog 115 #[v] w fun e w' => ∃ v', e = .returned v' ∧ Own w.heap.size w' v' ls.flatten ∧ Below w.heap.size w w' := by
 obtain ⟨p, n, c, rfl⟩ := hv.sl
 obtain ⟨hn, hm, hnc⟩ := hv.len
 by_cases h2 : 2 ≤ n
 ·obtain ⟨b, o, _, _, _, _, rfl, _⟩ := hv.cellAt (k := 0) (by omega)
  obtain ⟨vs, hP⟩ := hv.parts
  exact join_many hn.symm h2 hP hnc hl (by omega)
 ·refine join_step (P := fun e w' => ∃ v', e = .returned v' ∧ Own w.heap.size w' v' ls.flatten ∧ Below w.heap.size w w') ?_
  by_cases h1 : n = 1
  ·subst h1
   obtain ⟨b, o, q, m, d, l, rfl, hx, hcell, hby⟩ := hv.cellAt (k := 0) (by omega)
   have hls : ls = [l] := by
    cases ls with
    | nil => simp at hx
    | cons x r =>
     simp at hx
     subst hx
     cases r with
     | nil => rfl
     | cons y r => simp at hn
   subst hls
   rw [flatten_one]
   rw [Nat.add_zero] at hcell
   obtain ⟨hml, hmd⟩ := hby.len
   by_cases h0 : l.length = 0
   ·obtain rfl : l = [] := List.eq_nil_of_length_eq_zero h0
    obtain rfl : m = 0 := hml
    exact (Tryz.bytes_Join_one_empty b o c q d _ w hcell).mono fun e w' ⟨he, hw⟩ => ⟨_, he, _, rfl, Own.nil _ _, by rw [hw]; exact Below.refl _ _⟩
   ·obtain ⟨b2, o2, x, rfl, _, _⟩ := hby.cellAt (k := 0) (by omega)
    subst hml
    obtain ⟨q', d', e, _, _, _, hc⟩ := hby
    injection e with e1 e2 e3
    subst e1
    exact (Tryz.bytes_Join_one b o c _ d l _ w hcell (fun i x hx => hc _ rfl i x hx) (by omega) (by simp [Lib.lens] at hl; omega)).mono fun e w' ⟨v', he, hf, hb⟩ => ⟨_, he, _, rfl, Own.of_fresh hf, hb⟩
  ·obtain rfl : n = 0 := by omega
   obtain rfl : ls = [] := List.eq_nil_of_length_eq_zero hn.symm
   refine (Tryz.bytes_Join_none p c _ w).mono fun e w' ⟨he, hw⟩ => ⟨_, he, _, rfl, ?_, by rw [hw]; exact (Below.refl _ _).alloc (Nat.le_refl _) _⟩
   refine .inr ⟨w.heap.size, 0, rfl, Nat.le_refl _, Nat.le_refl _, by simp [maxLen], fun i x hx => by simp at hx, fun i hi => by omega, fun i hi => by omega⟩
theorem size_alloc' (w : World) (o : Obj) : (w.alloc o).heap.size = w.heap.size + 1 := by simp
theorem two_parts {w : World} {v u : Value} {l m : List UInt8} (h : By w v l) (h2 : By w u m) : Bss (w.alloc (.cells #[v, u] 40)) (.slice (some ⟨w.heap.size, 0, none⟩) 2 2) [l, m] :=
 Bss.new (vs := [v, u]) rfl (by decide) rfl fun i u m hu hm => by
  match i, hu, hm with
  | 0, hu, hm => simp at hu hm; subst hu hm; exact h
  | 1, hu, hm => simp at hu hm; subst hu hm; exact h2
end Go.Proofs.YtgbdjcekpdfpjaaGreatDoor
namespace Go.Proofs.YtgbdjcekpdfpjaaGreatDoor
open Go.RowKit
theorem elemB : Tryz.prog.elem 40 = 5 := by simp [Program.elem, Tryz.underlying40]
theorem underB' : Tryz.prog.underlying 40 = some (.slice (Tryz.prog.elem 40)) := by rw [elemB]; exact Tryz.underlying40
theorem cut_from {w : World} {p : Option Addr} {n c : Nat} {l : List UInt8} (h : By w (.slice p n c) l) {k : Nat} (hk : k ≤ n) :
  ∃ q, (∀ W : World, (Instr.slice 40 (.slice p n c) (some (.int .i64 (k : Int))) none none).run Tryz.prog W = .ok (.slice q (n - k) (c - k)) W) ∧ By w (.slice q (n - k) (c - k)) (l.drop k) := by
 have hn := h.len
 obtain ⟨p', c', e, hl, hm, hno, hc⟩ := h
 injection e with e1 e2 e3
 subst e1 e3
 refine ⟨if c = k then p else p.map (·.add k), fun W => ?_, ?_⟩
 ·rw [run_slice_l W 40 _ _ _ underB' .i64 _ (by omega) (by omega), elemB, Tryz.sizeOf5]
  have e4 : ((k : Int)).toNat = k := by omega
  simp only [e4, Result.andThen, sliced, Nat.mul_one]
 ·refine ⟨if c = k then p else p.map (·.add k), c - k, ?_, by rw [List.length_drop]; omega, by omega, ?_, fun a ea i x hx => ?_⟩
  ·rw [List.length_drop, hn.1]
  ·intro hq
   split at hq
   ·rename_i hck
    omega
   ·rcases p with _ | a
    ·have := hno rfl
     omega
    ·simp at hq
  ·rw [List.getElem?_drop] at hx
   have hlt := (List.getElem?_eq_some_iff.1 hx).1
   rw [if_neg (by omega)] at ea
   rcases p with _ | a0
   ·simp at ea
   ·simp only [Option.map_some, Option.some.injEq] at ea
    subst ea
    have hadd : (a0.add k).add i = a0.add (k + i) := by
     unfold Addr.add
     by_cases hk0 : k = 0 <;> by_cases hi : i = 0 <;> simp [hk0, hi, Nat.add_assoc]
    rw [hadd]
    exact hc a0 rfl _ x hx
theorem cut_to {w : World} {p : Option Addr} {n c : Nat} {l : List UInt8} (h : By w (.slice p n c) l) {k : Nat} (hk : k ≤ n) : By w (.slice p k c) (l.take k) := by
 have hn := h.len
 obtain ⟨p', c', e, hl, hm, hno, hc⟩ := h
 injection e with e1 e2 e3
 subst e1 e3
 have hlk : (l.take k).length = k := by rw [List.length_take]; omega
 refine ⟨p, c, by rw [hlk], by omega, hm, hno, fun a ea i x hx => hc a ea i x ?_⟩
 rw [List.getElem?_take] at hx
 split at hx
 ·exact hx
 ·cases hx
theorem run_cut_to (W : World) (p : Option Addr) (n c k : Nat) (hk : k ≤ c) : (Instr.slice 40 (.slice p n c) none (some (.int .i64 (k : Int))) none).run Tryz.prog W = .ok (.slice p k c) W := by
 rw [run_slice_h W 40 _ _ _ underB' .i64 _ (by omega) (by omega), elemB, Tryz.sizeOf5]
 have e4 : ((k : Int)).toNat = k := by omega
 rcases p with _ | a
 ·simp [Result.andThen, sliced, e4]
 ·by_cases hc : c = 0
  ·simp [Result.andThen, sliced, e4, hc]
  ·simp [Result.andThen, sliced, e4, Addr.add]
theorem cut_mid {w : World} {p : Option Addr} {n c : Nat} {l : List UInt8} (h : By w (.slice p n c) l) {j k : Nat} (hjk : j ≤ k) (hk : k ≤ n) :
  ∃ q, (∀ W : World, (Instr.slice 40 (.slice p n c) (some (.int .i64 (j : Int))) (some (.int .i64 (k : Int))) none).run Tryz.prog W = .ok (.slice q (k - j) (c - j)) W) ∧ By w (.slice q (k - j) (c - j)) ((l.take k).drop j) := by
 have hn := h.len
 obtain ⟨q, hr, hb⟩ := cut_from (cut_to h hk) hjk
 refine ⟨if c = j then p else p.map (·.add j), fun W => ?_, ?_⟩
 ·rw [run_slice_lh W 40 _ _ _ underB' .i64 .i64 _ _ (by omega) (by omega) (by omega), elemB, Tryz.sizeOf5]
  have e4 : ((j : Int)).toNat = j := by omega
  have e5 : ((k : Int)).toNat = k := by omega
  simp only [e4, e5, Result.andThen, sliced, Nat.mul_one]
 ·have h2 := hr w
  rw [run_slice_l w 40 _ _ _ underB' .i64 _ (by omega) (by omega), elemB, Tryz.sizeOf5] at h2
  have e4 : ((j : Int)).toNat = j := by omega
  simp only [e4, Result.andThen, sliced, Nat.mul_one, Result.ok.injEq, Value.slice.injEq, and_true] at h2
  rw [h2]
  exact hb
end Go.Proofs.YtgbdjcekpdfpjaaGreatDoor
namespace Go.Proofs.YtgbdjcekpdfpjaaGreatDoor
set_option maxRecDepth 200000
set_option maxHeartbeats 1000000
open Go.RowKit
def rd : List UInt8 → Nat → Nat → Nat × Nat × Nat
 | [], _, _ => (0, 0, 2)
 | x :: r, i, n => if i = 0 ∧ x.toNat = 128 then (0, 0, 10) else if i = 9 then (0, 0, 5) else if x.toNat < 128 then (n * 128 + x.toNat % 128, i + 1, 0) else rd r (i + 1) (n * 128 + x.toNat % 128)
def readNum (b : List UInt8) : Nat × Nat × Nat := rd b 0 0
theorem rd_at {l : List UInt8} {i : Nat} {x : UInt8} (hx : l[i]? = some x) (n : Nat) :
  rd (l.drop i) i n = if i = 0 ∧ x.toNat = 128 then (0, 0, 10) else if i = 9 then (0, 0, 5) else if x.toNat < 128 then (n * 128 + x.toNat % 128, i + 1, 0) else rd (l.drop (i + 1)) (i + 1) (n * 128 + x.toNat % 128) := by
 have hi := (List.getElem?_eq_some_iff.1 hx).1
 rw [List.drop_eq_getElem_cons hi, (List.getElem?_eq_some_iff.1 hx).2]
 rfl
theorem rd_end {l : List UInt8} {i : Nat} (hi : l.length ≤ i) (n : Nat) : rd (l.drop i) i n = (0, 0, 2) := by
 rw [List.drop_eq_nil_of_le hi]
 rfl
theorem ret3 {k1 k2 k3 : IntKind} {a a' b b' c c' : Int} (h1 : a = a') (h2 : b = b') (h3 : c = c') : Ending.returned (.tuple #[.int k1 a, .int k2 b, .int k3 c]) = .returned (.tuple #[.int k1 a', .int k2 b', .int k3 c']) := by
 rw [h1, h2, h3]
theorem ret2 {k1 k2 : IntKind} {a a' b b' : Int} (h1 : a = a') (h2 : b = b') : Ending.returned (.tuple #[.int k1 a, .int k2 b]) = .returned (.tuple #[.int k1 a', .int k2 b']) := by
 rw [h1, h2]
theorem and_u8 (x : UInt8) : bits BinOp.and IntKind.u8 (x.toNat : Int) 127 = ((x.toNat % 128 : Nat) : Int) := and_all ⟨x.toNat, x.toNat_lt⟩
theorem i64_or7 (z y : Nat) (hz : z < 128 ^ 8) (hy : y < 128) : bits BinOp.or IntKind.i64 ((z : Int) * 128) (y : Int) = ((z * 128 + y : Nat) : Int) := by
 have e : z * 128 + y = (z * 128) ||| y := by
  have := Nat.shiftLeft_add_eq_or_of_lt (i := 7) (b := y) (by omega) z
  rw [Nat.shiftLeft_eq] at this
  exact this
 have hx : (z * 128) ||| y < 9223372036854775808 := by rw [← e]; omega
 have e2 : ((z : Int) * 128) = ((z * 128 : Nat) : Int) := by omega
 rw [e, e2]
 show IntKind.i64.wrap ((BitVec.ofInt 64 ((z * 128 : Nat) : Int) ||| BitVec.ofInt 64 (y : Int)).toNat : Int) = _
 rw [BitVec.toNat_or, BitVec.ofInt_natCast, BitVec.ofInt_natCast, BitVec.toNat_ofNat, BitVec.toNat_ofNat, Nat.mod_eq_of_lt (by omega), Nat.mod_eq_of_lt (by omega), IntKind.wrap_i64]
 omega
theorem refRead_any {w : World} {v : Value} {l : List UInt8} (hv : By w v l) {N K E : Nat} (hR : readNum l = (N, K, E)) :
  Calls Tryz.prog 117 #[v] w fun e w' => e = .returned (.tuple #[.int .i64 N, .int .i64 K, .int .i64 E]) ∧ w = w' := by
 obtain ⟨p, m, c, rfl⟩ := hv.sl
 obtain ⟨hm, _⟩ := hv.len
 have hmm := hv.lenMax
 have HV := hide hv
 have HM := hide hm
 have HR := hide hR
 clear hv hm hR
 go_enter Tryz.func117, Tryz.ntmps117
 go_wp2
 go_loop [5, 6] (fun a i => ∃ k z : Nat, k ≤ 9 ∧ i = .int .i64 k ∧ a = .int .i64 z ∧ z < 128 ^ k ∧ rd (l.drop k) k z = (N, K, E)) (fun _ i => 10 - (intOf i).toNat)
 case atStart => exact ⟨0, 0, by omega, rfl, rfl, by omega, HR.out⟩
 case round =>
  obtain ⟨k, z, hk, rfl, rfl, hz, hrd⟩ := hrel
  have HRD := hide hrd
  clear hrd
  by_cases hkm : (k : Int) < (m : Int)
  ·obtain ⟨b, o, x, rfl, hx, hcell⟩ := HV.out.cellAt (k := k) (by omega)
   have hrd := HRD.out
   rw [rd_at hx] at hrd
   have hxl : (x.toNat : Int) < 256 := by have := x.toNat_lt; omega
   clear hx HRD
   have guard : (((k : Int) == 0) = true ∧ ((x.toNat : Int) == 128) = true ∧ k = 0 ∧ x.toNat = 128) ∨ ((((k : Int) == 0) = false ∨ (((k : Int) == 0) = true ∧ ((x.toNat : Int) == 128) = false)) ∧ ¬ (k = 0 ∧ x.toNat = 128)) := by
    by_cases h0 : k = 0
    ·by_cases h1 : x.toNat = 128
     ·exact .inl ⟨by simp; omega, by simp; omega, h0, h1⟩
     ·exact .inr ⟨.inr ⟨by simp; omega, by simp; omega⟩, fun h => h1 h.2⟩
    ·exact .inr ⟨.inl (by simp; omega), fun h => h0 h.1⟩
   rcases guard with ⟨g1, g2, h0, h1⟩ | ⟨g, hno⟩
   ·rw [if_pos ⟨h0, h1⟩] at hrd
    simp only [Prod.mk.injEq] at hrd
    obtain ⟨rfl, rfl, rfl⟩ := hrd
    clear h0 h1 HR
    go_wp2
    go_ret3
    exact ⟨rfl, rfl⟩
   ·rw [if_neg hno] at hrd
    by_cases h9 : k = 9
    ·rw [if_pos h9] at hrd
     simp only [Prod.mk.injEq] at hrd
     obtain ⟨rfl, rfl, rfl⟩ := hrd
     have g3 : ((k : Int) == 9) = true := by simp; omega
     clear h9 hno HR
     rcases g with g | ⟨g, g2⟩
     all_goals
      go_wp2
      go_ret3
      exact ⟨rfl, rfl⟩
    ·rw [if_neg h9] at hrd
     have g3 : ((k : Int) == 9) = false := by simp; omega
     have hz8 : z < 128 ^ 8 := Nat.lt_of_lt_of_le hz (Nat.pow_le_pow_right (by decide) (by omega))
     have hz8' : (z : Int) ≤ 72057594037927935 := by omega
     have hzk : z * 128 + x.toNat % 128 < 128 ^ (k + 1) := by rw [Nat.pow_succ]; omega
     have hk9 : k + 1 ≤ 9 := by omega
     have HZK := hide hzk
     clear hz hz8 hzk h9 hno HR
     by_cases hlt : (x.toNat : Int) < 128
     ·rw [if_pos (by omega)] at hrd
      simp only [Prod.mk.injEq] at hrd
      obtain ⟨rfl, rfl, rfl⟩ := hrd
      rcases g with g | ⟨g, g2⟩
      all_goals
       go_wp2
       go_ret3
       exact ⟨ret3 (by omega) (by omega) rfl, rfl⟩
     ·rw [if_neg (by omega)] at hrd
      have HRD := hide hrd
      clear hrd
      rcases g with g | ⟨g, g2⟩
      all_goals
       go_wp2
       go_round
       case rel => exact ⟨k + 1, z * 128 + x.toNat % 128, hk9, by go_num, by go_num, HZK.out, HRD.out⟩
       case measure => simp [intOf]; omega
  ·have hrd := HRD.out
   rw [rd_end (by have := HM.out; omega)] at hrd
   simp only [Prod.mk.injEq] at hrd
   obtain ⟨rfl, rfl, rfl⟩ := hrd
   clear HR HRD
   go_wp2
   go_ret3
   exact ⟨rfl, rfl⟩
theorem grown_drewN {w w' : World} {row : Option Nat} (h : w.grownBy w' row) (n : Nat) : w.grownBy (w'.drewN n) row := ⟨h.os, h.tape, h.output, h.size, h.block⟩
def NumPost (w : World) (g t : Nat) (cs : Array Value) (at_ N K E : Nat) (e : Ending) (w' : World) : Prop :=
 e = .returned (.tuple #[.int .i64 N, .int .i64 E]) ∧ w'.heap[g]? = some (.cells (cs.setIfInBounds 1 (.int .i64 ((at_ + K : Nat) : Int))) t (0, 0)) ∧ w.grownBy w' (some g)
theorem number_any {w : World} {g t : Nat} {cs : Array Value} {p : Option Addr} {n c at_ : Nat} {l : List UInt8} (hB : w.heap[g]? = some (.cells cs t (0, 0))) (h0 : cs[0]? = some (.slice p n c)) (h1 : cs[1]? = some (.int .i64 (at_ : Int)))
  (hby : By w (.slice p n c) l) (hat : at_ ≤ n) {N K E : Nat} (hR : readNum (l.drop at_) = (N, K, E)) :
  Calls Tryz.prog 143 #[.pointer (some ⟨g, 0, none⟩)] w (NumPost w g t cs at_ N K E) := by
 obtain ⟨q, hcut, hr⟩ := cut_from hby hat
 have hat' : (at_ : Int) ≤ (n : Int) := by omega
 have hmm := hby.lenMax
 obtain ⟨m, hm⟩ : ∃ m, n - at_ = m := ⟨_, rfl⟩
 obtain ⟨d, hd⟩ : ∃ d, c - at_ = d := ⟨_, rfl⟩
 rw [hm, hd] at hr
 simp only [hm, hd] at hcut
 have hmn : m + at_ ≤ n := by omega
 obtain ⟨r, hrr⟩ : ∃ r, l.drop at_ = r := ⟨_, rfl⟩
 rw [hrr] at hr hR
 have hc0 : w.cell? ⟨g, 0, none⟩ = some (.slice p n c) := by rw [cell_of_row w g 0 cs t (0, 0) hB]; exact h0
 have hc1 : w.cell? ⟨g, 1, none⟩ = some (.int .i64 (at_ : Int)) := by rw [cell_of_row w g 1 cs t (0, 0) hB]; exact h1
 have hf1 := frozen_of_row w g 1 cs t hB
 have HC1 := hide h1
 have HB := hide hB
 have HRY := hide hr
 have HR := hide hR
 have HM := hide hr.len.1
 clear hB h0 h1 hby hr hR hm hd hrr
 have hset0 : cs.setIfInBounds 1 (.int .i64 ((at_ + 0 : Nat) : Int)) = cs := by
  rw [Nat.add_zero]
  apply Array.ext
  ·simp
  ·intro i h1 h2
   rw [Array.getElem_setIfInBounds h2]
   split
   ·rename_i hi
    subst hi
    have := HC1.out
    rw [Array.getElem?_eq_getElem h2] at this
    injection this with this
    exact this.symm
   ·rfl
 have HSET := hide hset0
 clear hset0 HC1
 by_cases hm0 : (0 : Int) < (m : Int)
 ·obtain ⟨b, o, x, rfl, hx, hcell⟩ := HRY.out.cellAt (k := 0) (by omega)
  rw [Nat.add_zero] at hcell
  by_cases h128 : x.toNat = 128
  ·have g1 : ((x.toNat : Int) == 128) = true := by simp; omega
   have hrd := HR.out
   unfold readNum at hrd
   rw [← List.drop_zero (l := r), rd_at hx, if_pos ⟨rfl, h128⟩] at hrd
   simp only [Prod.mk.injEq] at hrd
   obtain ⟨rfl, rfl, rfl⟩ := hrd
   clear hx h128 HR
   go_enter Tryz.func143, Tryz.ntmps143
   go_wp2
   go_quiet (fail)
   go_wp2
   go_ret2
   exact ⟨rfl, by rw [HSET.out]; exact HB.out, grown_drewN (World.grownBy.refl w _) _⟩
  ·have g1 : ((x.toNat : Int) == 128) = false := by simp; omega
   have HX := hide hx
   have H128 := hide h128
   clear hx h128
   go_enter Tryz.func143, Tryz.ntmps143
   go_wp2
   go_quiet (fail)
   go_wp2
   clear hcell hc0 g1
   go_loop [5, 6, 7, 28] (fun a _ _ i => ∃ k z : Nat, k ≤ 9 ∧ i = .int .i64 k ∧ a = .int .i64 z ∧ z < 128 ^ k ∧ rd (r.drop k) k z = (N, K, E)) (fun _ _ _ i => 10 - (intOf i).toNat)
   case atStart => exact ⟨0, 0, by omega, rfl, rfl, by omega, HR.out⟩
   case round =>
    obtain ⟨k, z, hk, rfl, rfl, hz, hrd⟩ := hrel
    have HRD := hide hrd
    clear hrd HR
    by_cases hkm : (k : Int) < (m : Int)
    ·obtain ⟨b2, o2, y, e2, hy, hcell⟩ := HRY.out.cellAt (k := k) (by omega)
     injection e2 with e2
     injection e2 with e2 e3
     subst e2 e3
     have hrd := HRD.out
     rw [rd_at hy] at hrd
     have hno : ¬ (k = 0 ∧ y.toNat = 128) := by
      rintro ⟨rfl, h2⟩
      have := HX.out
      rw [hy] at this
      injection this with this
      subst this
      exact H128.out h2
     rw [if_neg hno] at hrd
     have hyl : (y.toNat : Int) < 256 := by have := y.toNat_lt; omega
     clear hy HRD hno
     by_cases h9 : k = 9
     ·rw [if_pos h9] at hrd
      simp only [Prod.mk.injEq] at hrd
      obtain ⟨rfl, rfl, rfl⟩ := hrd
      have g3 : ((k : Int) == 9) = true := by simp; omega
      clear h9
      go_wp2
      go_ret2
      exact ⟨rfl, by rw [HSET.out]; exact HB.out, grown_drewN (World.grownBy.refl w _) _⟩
     ·rw [if_neg h9] at hrd
      have g3 : ((k : Int) == 9) = false := by simp; omega
      have hz8 : z < 128 ^ 8 := Nat.lt_of_lt_of_le hz (Nat.pow_le_pow_right (by decide) (by omega))
      have hz8' : (z : Int) ≤ 72057594037927935 := by omega
      have hzk : z * 128 + y.toNat % 128 < 128 ^ (k + 1) := by rw [Nat.pow_succ]; omega
      have hk9 : k + 1 ≤ 9 := by omega
      have ea := and_u8 y
      have eo : bits BinOp.or IntKind.i64 ((z : Int) * 128) ((y.toNat : Int) % 128) = ((z * 128 + y.toNat % 128 : Nat) : Int) := by
       rw [show ((y.toNat : Int) % 128) = ((y.toNat % 128 : Nat) : Int) by omega]
       exact i64_or7 z (y.toNat % 128) hz8 (by omega)
      have HEO := hide eo
      clear eo
      have HZK := hide hzk
      clear hz hz8 hzk h9
      by_cases hlt : (y.toNat : Int) < 128
      ·rw [if_pos (by omega)] at hrd
       simp only [Prod.mk.injEq] at hrd
       obtain ⟨rfl, rfl, rfl⟩ := hrd
       have hsum : (at_ : Int) + ((k : Int) + 1) ≤ 9223372036854775807 := by omega
       go_wp2
       go_ret2
       refine ⟨ret2 HEO.out rfl, ?_, ?_⟩
       ·have h := heap_setCell_same (w.drewN nq) g 1 cs t (.int .i64 ((at_ : Int) + ((k : Int) + 1))) HB.out
        rw [h]
        have e : (at_ : Int) + ((k : Int) + 1) = ((at_ + (k + 1) : Nat) : Int) := by omega
        rw [e]
       ·exact ⟨rfl, rfl, rfl, by simp [World.setCell, World.drewN], fun i _ hi => heap_setCell_other (w.drewN nq) ⟨g, 1, none⟩ i _ (fun e => hi (by rw [e]))⟩
      ·rw [if_neg (by omega)] at hrd
       have HRD := hide hrd
       clear hrd
       go_wp2
       go_round
       case rel => exact ⟨k + 1, z * 128 + y.toNat % 128, hk9, by go_num, by rw [HEO.out], HZK.out, HRD.out⟩
       case measure => simp [intOf]; omega
    ·have hrd := HRD.out
     rw [rd_end (by have := HM.out; omega)] at hrd
     simp only [Prod.mk.injEq] at hrd
     obtain ⟨rfl, rfl, rfl⟩ := hrd
     clear HRD
     go_wp2
     go_ret2
     exact ⟨rfl, by rw [HSET.out]; exact HB.out, grown_drewN (World.grownBy.refl w _) _⟩
 ·have hrd := HR.out
  unfold readNum at hrd
  rw [← List.drop_zero (l := r), rd_end (by have := HM.out; omega)] at hrd
  simp only [Prod.mk.injEq] at hrd
  obtain ⟨rfl, rfl, rfl⟩ := hrd
  clear HR
  go_enter Tryz.func143, Tryz.ntmps143
  go_wp2
  go_quiet (fail)
  go_wp2
  refine wp_loop_rounds 1 ?_
  rw [rounds_succ]
  go_wp2
  go_ret2
  exact ⟨rfl, by rw [HSET.out]; exact HB.out, grown_drewN (World.grownBy.refl w _) _⟩
end Go.Proofs.YtgbdjcekpdfpjaaGreatDoor
namespace Go.Proofs.YtgbdjcekpdfpjaaGreatDoor
theorem rd_cons (x : UInt8) (r : List UInt8) (i n : Nat) :
  rd (x :: r) i n = if i = 0 ∧ x.toNat = 128 then (0, 0, 10) else if i = 9 then (0, 0, 5) else if x.toNat < 128 then (n * 128 + x.toNat % 128, i + 1, 0) else rd r (i + 1) (n * 128 + x.toNat % 128) := rfl
theorem u8_eq {x : UInt8} {k : Nat} (h : k < 256) (e : x.toNat = k) : x = UInt8.ofNat k := by
 apply UInt8.toNat_inj.1
 rw [e]
 simp
 omega
theorem ofNat_toNat {k : Nat} (h : k < 256) : (UInt8.ofNat k).toNat = k := by simp; omega
theorem rd_form : ∀ (l : List UInt8) (i z : Nat), i ≤ 9 → (z = 0 ↔ i = 0) → z < 128 ^ i → ∀ {n k : Nat}, rd l i z = (n, k, 0) → i ≤ k ∧ k ≤ 9 ∧ k - i ≤ l.length ∧ hi z ++ l.take (k - i) = digits n ∧ n < 128 ^ k
 | [], i, z, _, _, _, n, k, h => by simp [rd] at h
 | x :: r, i, z, hi9, hz, hb, n, k, h => by
  rw [rd_cons] at h
  have hxl := x.toNat_lt
  split at h
  ·simp at h
  ·rename_i hno
   split at h
   ·simp at h
   ·rename_i h9
    split at h
    ·rename_i hlt
     simp only [Prod.mk.injEq, and_true] at h
     obtain ⟨rfl, rfl⟩ := h
     refine ⟨by omega, by omega, by simp, ?_, ?_⟩
     ·rw [show i + 1 - i = 1 by omega]
      unfold digits
      have e1 : (z * 128 + x.toNat % 128) / 128 = z := by omega
      have e2 : (z * 128 + x.toNat % 128) % 128 = x.toNat := by omega
      rw [e1, e2, ← u8_eq (by omega) rfl]
      rfl
     ·rw [Nat.pow_succ]; omega
    ·rename_i hge
     have e1 : (z * 128 + x.toNat % 128) / 128 = z := by omega
     have e2 : (z * 128 + x.toNat % 128) % 128 + 128 = x.toNat := by omega
     have hz' : z * 128 + x.toNat % 128 ≠ 0 := by
      intro h0
      have hz0 : z = 0 := by omega
      exact hno ⟨hz.1 hz0, by omega⟩
     obtain ⟨g1, g2, g3, g4, g5⟩ := rd_form r (i + 1) (z * 128 + x.toNat % 128) (by omega) ⟨fun h => absurd h hz', fun h => by omega⟩ (by rw [Nat.pow_succ]; omega) h
     refine ⟨by omega, g2, by simp; omega, ?_, g5⟩
     rw [hi_pos hz', e1, e2, ← u8_eq (by omega) rfl] at g4
     rw [show k - i = (k - (i + 1)) + 1 by omega, List.take_succ_cons, ← g4]
     simp
theorem readNum_form {l : List UInt8} {n k : Nat} (h : readNum l = (n, k, 0)) : k ≤ l.length ∧ k ≤ 9 ∧ l.take k = digits n ∧ n < 128 ^ k := by
 obtain ⟨_, g2, g3, g4, g5⟩ := rd_form l 0 0 (by omega) ⟨fun _ => rfl, fun _ => rfl⟩ (by decide) h
 rw [hi_zero, Nat.sub_zero] at g4
 exact ⟨by omega, g2, by simpa using g4, g5⟩
theorem rd_hi : ∀ (m : Nat) (s : List UInt8), (hi m).length ≤ 9 → rd (hi m ++ s) 0 0 = rd s (hi m).length m := by
 intro m
 induction m using Nat.strongRecOn with
 | _ m ih =>
  intro s hl
  by_cases h0 : m = 0
  ·subst h0
   rw [hi_zero]
   rfl
  ·have hp := hi_pos h0
   have hlen : (hi m).length = (hi (m / 128)).length + 1 := by rw [hp]; simp
   rw [hp, List.append_assoc, ih (m / 128) (by omega) _ (by omega), List.singleton_append, rd_cons]
   have hx : (UInt8.ofNat (m % 128 + 128)).toNat = m % 128 + 128 := ofNat_toNat (by omega)
   rw [hx, if_neg, if_neg (by omega), if_neg (by omega)]
   ·have e : m / 128 * 128 + (m % 128 + 128) % 128 = m := by omega
    rw [e, ← hp, hlen]
   ·rintro ⟨h1, h2⟩
    have : m / 128 = 0 := by
     by_cases hq : m / 128 = 0
     ·exact hq
     ·have := hi_pos hq
      rw [this] at h1
      simp at h1
    omega
theorem hi_len8 {n : Nat} (h : n < 9223372036854775808) : (hi (n / 128)).length ≤ 8 := hi_length (n / 128) 8 (by omega)
theorem readNum_digits {n : Nat} (h : n < 9223372036854775808) (r : List UInt8) : readNum (digits n ++ r) = (n, (digits n).length, 0) := by
 have h8 := hi_len8 h
 unfold readNum digits
 rw [List.append_assoc, rd_hi _ _ (by omega), List.singleton_append, rd_cons]
 have hx : (UInt8.ofNat (n % 128)).toNat = n % 128 := ofNat_toNat (by omega)
 rw [hx, if_neg (by omega), if_neg (by omega), if_pos (by omega)]
 have e : n / 128 * 128 + n % 128 % 128 = n := by omega
 rw [e]
 simp
end Go.Proofs.YtgbdjcekpdfpjaaGreatDoor
