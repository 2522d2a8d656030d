/- The words in which the proofs over package wire speak of byte slices in memory: a slice that reads as a list of bytes, one that the call itself made, and what becomes of them. -/
import Derived.Test.YtdghkmpcjjmlfaaShelf
import Derived.Lib.SlFresh
import Derived.Lib.SlParts
import Derived.WalkKit
import Derived.ArgAppend
import Derived.WalkSmall
import Derived.Deep.Draws
namespace Go.Proofs.Ytdghkmpcjjmlfaa
open Go.RowKit

/-- A fact kept from the walk. -/
theorem hide {p : Prop} (h : p) : Hid p := h

/-- A byte as a cell's value. -/
def bv (x : UInt8) : Value := .int .u8 (x.toNat : Int)

theorem add_lit0 (b o i : Nat) : (⟨b, o, none⟩ : Addr).add i = ⟨b, o + i, none⟩ := by unfold Addr.add; split <;> simp_all

theorem block_add (a : Addr) (i : Nat) : (a.add i).block = a.block := by unfold Addr.add; split <;> rfl

/-- The slice value v reads as the bytes l. -/
def By (w : World) (v : Value) (l : List UInt8) : Prop :=
  ∃ (p : Option Addr) (cap : Nat), v = .slice p l.length cap ∧ l.length ≤ cap ∧ cap ≤ maxLen ∧ (p = none → cap = 0) ∧ ∀ a, p = some a → ∀ (i : Nat) x, l[i]? = some x → w.cell? (a.add i) = some (bv x)

/-- The slice value v reads as the bytes l, and lies in a block from B on, none of which is frozen, to its capacity; or it is nil. -/
def Own (B : Nat) (w : World) (v : Value) (l : List UInt8) : Prop :=
  (v = .slice none 0 0 ∧ l = []) ∨
  ∃ g cap : Nat, v = .slice (some ⟨g, 0, none⟩) l.length cap ∧ B ≤ g ∧ l.length ≤ cap ∧ cap ≤ maxLen ∧ (∀ (i : Nat) x, l[i]? = some x → w.cell? ⟨g, i, none⟩ = some (bv x)) ∧
    (∀ i, i < cap → (w.cell? ⟨g, i, none⟩).isSome = true) ∧ ∀ i, i < cap → w.frozen? ⟨g, i, none⟩ = false

theorem By.nil (w : World) : By w (.slice none 0 0) [] := ⟨none, 0, rfl, by simp, by simp [maxLen], fun _ => rfl, fun a h => by cases h⟩

theorem By.shape {w : World} {v : Value} {l : List UInt8} (h : By w v l) : ∃ p c, v = .slice p l.length c := by
  obtain ⟨p, c, e, _⟩ := h
  exact ⟨p, c, e⟩

theorem Own.nil (B : Nat) (w : World) : Own B w (.slice none 0 0) [] := .inl ⟨rfl, rfl⟩

theorem Own.by_ {B : Nat} {w : World} {v : Value} {l : List UInt8} (h : Own B w v l) : By w v l := by
  rcases h with ⟨rfl, rfl⟩ | ⟨g, cap, rfl, _, hl, hm, hc, _, _⟩
  · exact By.nil w
  · refine ⟨some ⟨g, 0, none⟩, cap, rfl, hl, hm, (fun e => by cases e), fun a e i x hx => ?_⟩
    injection e with e
    subst e
    rw [add_lit0, Nat.zero_add]
    exact hc i x hx

/-- A cell that is there lies in a block that is there. -/
theorem lt_of_cell {w : World} {a : Addr} {v : Value} (h : w.cell? a = some v) : a.block < w.heap.size := World.block_lt_of_cell? w a h

theorem By.below {w w' : World} {v : Value} {l : List UInt8} (h : By w v l) (hb : Below w.heap.size w w') : By w' v l := by
  obtain ⟨p, cap, rfl, hl, hm, hn, hc⟩ := h
  exact ⟨p, cap, rfl, hl, hm, hn, fun a e i x hx => (hb.cell (lt_of_cell (hc a e i x hx))).trans (hc a e i x hx)⟩

theorem By.drewN {w : World} {v : Value} {l : List UInt8} (h : By w v l) (n : Nat) : By (w.drewN n) v l := h
theorem By.drew {w : World} {v : Value} {l : List UInt8} (h : By w v l) : By w.drew v l := h

theorem By.alloc {w : World} {v : Value} {l : List UInt8} (h : By w v l) (o : Obj) : By (w.alloc o) v l := h.below ((Below.refl _ _).alloc (Nat.le_refl _) o)

theorem Own.below {B : Nat} {w w' : World} {v : Value} {l : List UInt8} (h : Own B w v l) (hb : Below w.heap.size w w') : Own B w' v l := by
  rcases h with h | ⟨g, cap, rfl, hB, hl, hm, hc, hs, hf⟩
  · exact .inl h
  · by_cases h0 : cap = 0
    · subst h0
      exact .inr ⟨g, 0, rfl, hB, hl, hm, fun i x hx => by simp at hl; subst hl; simp at hx, fun i hi => by omega, fun i hi => by omega⟩
    · have hlt : g < w.heap.size := by
        obtain ⟨u, hu⟩ := Option.isSome_iff_exists.1 (hs 0 (by omega))
        exact lt_of_cell hu
      exact .inr ⟨g, cap, rfl, hB, hl, hm, fun i x hx => (hb.cell (p := ⟨g, i, none⟩) hlt).trans (hc i x hx), fun i hi => by rw [hb.cell (p := ⟨g, i, none⟩) hlt]; exact hs i hi, fun i hi => (hb.frozen (p := ⟨g, i, none⟩) hlt).trans (hf i hi)⟩

theorem Own.mono {B B' : Nat} {w : World} {v : Value} {l : List UInt8} (h : Own B w v l) (hB : B' ≤ B) : Own B' w v l := by
  rcases h with h | ⟨g, cap, rfl, hBg, r⟩
  · exact .inl h
  · exact .inr ⟨g, cap, rfl, by omega, r⟩

/-- What an append of the kit's makes is owned. -/
theorem Own.of_row {base : Nat} {w : World} {e : TypeId} {v : Value} {n : Nat} {l : List UInt8} (h : w.ownsRow base e 1 v n (l.map bv)) : Own base w v l := by
  have hn : l.length = n := by have := h.1; simpa using this
  subst hn
  rcases h.2 with ⟨rfl, h0⟩ | ⟨g, cap, cur, rfl, hB, hg, hl, hm, hs, ht⟩
  · exact .inl ⟨rfl, List.eq_nil_of_length_eq_zero h0⟩
  · refine .inr ⟨g, cap, rfl, hB, hl, hm, fun i x hx => ?_, fun i hi => ?_, fun i _ => ?_⟩
    · have := h.cells (g := g) rfl i (bv x) (by simp [hx])
      rwa [add_lit0, Nat.zero_add] at this
    · rw [cell_of_row w g i cur e (0, 0) hg]
      simp [show i < cur.size by omega]
    · exact frozen_of_row w g i cur e hg

theorem Own.of_fresh {B : Nat} {w : World} {v : Value} {l : List UInt8} (h : Lib.FreshBytes B w v l) : Own B w v l := by
  obtain ⟨g, cap, zs, rfl, hB, hl, hm, hz, hr, hb, hc, hf⟩ := h
  refine .inr ⟨g, cap, rfl, hB, hl, hm, fun i x hx => ?_, fun i hi => by rw [hc i hi]; rfl, hf⟩
  have hi : i < l.length := (List.getElem?_eq_some_iff.1 hx).1
  rw [hc i (by omega)]
  have h1 : (Lib.bytesOf (zs.take l.length))[i]? = some x := by rw [hb]; exact hx
  have hiz : i < zs.length := by omega
  simp only [Lib.bytesOf, List.getElem?_map, List.getElem?_take, hi, if_true, List.getElem?_eq_getElem hiz, Option.map_some, Option.some.injEq] at h1
  have := hr zs[i] (List.getElem_mem hiz)
  simp only [List.getD, List.getElem?_eq_getElem hiz, Option.getD_some, Option.some.injEq, bv, Value.int.injEq, true_and]
  rw [← h1]
  simp
  omega

theorem By.holds {w : World} {v : Value} {l : List UInt8} (h : By w v l) : Lib.HoldsBytes w v l := by
  obtain ⟨p, cap, rfl, hl, hm, hn, hc⟩ := h
  exact ⟨p, cap, rfl, fun e => List.eq_nil_of_length_eq_zero (by have := hn e; omega), fun a e i x hx => hc a e i x hx⟩

theorem By.bytesIn {w : World} {p : Option Addr} {n cap : Nat} {l : List UInt8} (h : By w (.slice p n cap) l) : Lib.BytesIn w p n (Lib.numsL l) ∧ (Lib.numsL l).length = n := by
  obtain ⟨p', cap', e, hl, hm, hn, hc⟩ := h
  injection e with e1 e2 e3
  subst e1 e2 e3
  refine ⟨?_, Lib.numsL_length l⟩
  rcases p with _ | a
  · have h0 : l.length = 0 := by have := hn rfl; omega
    rw [h0]
    exact Lib.BytesIn.nil _ _ _
  · exact Lib.BytesIn.of_cells (fun i hi => by
      rw [hc a rfl i l[i] (List.getElem?_eq_getElem hi)]
      simp [bv, Lib.numsL, List.getD, hi])

/-! ## The callees of Go's library -/
/-- bytes.Equal. -/
theorem equal_any {w : World} {v1 v2 : Value} {l1 l2 : List UInt8} (h1 : By w v1 l1) (h2 : By w v2 l2) :
    Calls Try.prog 18 #[v1, v2] w fun e w' => e = .returned (.bool (l1 == l2)) ∧ w = w' := by
  have h1' := h1
  have h2' := h2
  obtain ⟨p1, c1, rfl, _⟩ := h1
  obtain ⟨p2, c2, rfl, _⟩ := h2
  obtain ⟨b1, n1⟩ := h1'.bytesIn
  obtain ⟨b2, n2⟩ := h2'.bytesIn
  refine (Try.bytes_Equal_all p1 p2 _ c1 _ c2 _ _ w n1 n2 b1 b2).mono fun e w' ⟨he, hw⟩ => ⟨?_, hw.symm⟩
  rw [he, Lib.bytesOf_numsL, Lib.bytesOf_numsL]

theorem map_numsL (l : List UInt8) : (Lib.numsL l).map (Value.int .u8) = l.map bv := by
  unfold Lib.numsL
  rw [List.map_map]
  rfl

/-- bytes.Clone. -/
theorem clone_any {w : World} {v : Value} {l : List UInt8} (h : By w v l) (hl : l.length ≤ 140737488355328) :
    Calls Try.prog 39 #[v] w fun e w' => ∃ v', e = .returned v' ∧ Own w.heap.size w' v' l ∧ Below w.heap.size w w' := by
  obtain ⟨p, c, rfl, hlc, hm, hn, hc⟩ := h
  rcases p with _ | a
  · obtain rfl : l = [] := List.eq_nil_of_length_eq_zero (by have := hn rfl; omega)
    exact (Try.bytes_Clone_nil _ c w).mono fun e w' ⟨he, hw⟩ => ⟨_, he, Own.nil _ _, by rw [hw]; exact Below.refl _ _⟩
  · refine (Try.bytes_Clone_at a l.length c (Lib.numsL l) w (Lib.numsL_length l) hl (fun i hi => ?_)).mono fun e w' ⟨v', he, ho, _, hb⟩ => ⟨v', he, ?_, hb⟩
    · rw [hc a rfl i l[i] (List.getElem?_eq_getElem hi)]
      simp [bv, Lib.numsL, List.getD, hi]
    · rw [map_numsL] at ho
      exact Own.of_row ho
end Go.Proofs.Ytdghkmpcjjmlfaa
