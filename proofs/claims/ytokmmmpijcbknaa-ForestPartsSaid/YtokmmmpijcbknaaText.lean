/- A number, a text and a flag put behind bytes, by the program and by the document. -/
import Derived.Test.YtokmmmpijcbknaaApp
import Derived.Lib.AppendStr
namespace Go.Proofs.Ytokmmmpijcbknaa
open Go.RowKit

/-- What a number behind bytes is. -/
theorem row_made0 (w : World) : (w.alloc (.cells #[] 5)).ownsRow w.heap.size 5 1 (.slice (some ⟨w.heap.size, 0, none⟩) 0 0) ([] : List UInt8).length (([] : List UInt8).map bv) := World.ownsRow_made w #[] 0 (Nat.le_refl _) (Nat.zero_le _) rfl

theorem row_below {w w' : World} {B n : Nat} {e : TypeId} {v : Value} {xs : List Value} (h : w.ownsRow B e 1 v n xs) (hb : Below w.heap.size w w') : w'.ownsRow B e 1 v n xs :=
  h.kept (row := none) ⟨hb.os, hb.tape, hb.output, hb.size, fun k hk _ => hb.block k hk⟩ (by cases v.ownBlock <;> simp)

theorem strCells_bv (s : ByteArray) : Lib.strCells s = s.data.toList.map bv := rfl

theorem By.sl {w : World} {v : Value} {l : List UInt8} (h : By w v l) : ∃ p n c, v = .slice p n c := by
  obtain ⟨p, c, e, _⟩ := h
  exact ⟨p, _, c, e⟩

theorem By.len {w : World} {p : Option Addr} {n c : Nat} {l : List UInt8} (h : By w (.slice p n c) l) : n = l.length ∧ n ≤ c := by
  obtain ⟨p', c', e, hl, _⟩ := h
  injection e with _ e2 e3
  subst e2 e3
  exact ⟨rfl, hl⟩

/-- An owned slice of a byte or more: its shape, its first byte. -/
theorem Own.head {B : Nat} {w : World} {v : Value} {l : List UInt8} (h : Own B w v l) (hl : 0 < l.length) :
    ∃ (g n cap : Nat) (x : UInt8), v = .slice (some ⟨g, 0, none⟩) n cap ∧ (0 : Int) < (n : Int) ∧ B ≤ g ∧ g < w.heap.size ∧ w.cell? ⟨g, 0, none⟩ = some (.int .u8 (x.toNat : Int)) ∧ w.frozen? ⟨g, 0, none⟩ = false := by
  rcases h with ⟨rfl, rfl⟩ | ⟨g, cap, rfl, hB, hlc, hm, hc, hs, hf⟩
  · simp at hl
  · have h0 : l[0]? = some l[0] := List.getElem?_eq_getElem hl
    exact ⟨g, _, cap, l[0], rfl, by omega, hB, lt_of_cell (hc 0 _ h0), hc 0 _ h0, hf 0 (by omega)⟩

/-- What a row's opening of a []byte hands over, as a slice of bytes. -/
theorem by_of_row {w : World} {a : Option Addr} {len cap : Nat} {zs : List Int}
    (h : (a = none ∧ len = 0 ∧ cap = 0 ∧ zs = []) ∨ ∃ x, a = some x ∧ len ≤ cap ∧ cap ≤ maxLen ∧ zs.length = cap ∧ (∀ i, i < zs.length → w.cell? (x.add i) = some (.int .u8 (zs.getD i 0))) ∧ ∀ n ∈ zs, (Lit.int .u8 n).wf = true) :
    ∃ l : List UInt8, l.length = len ∧ By w (.slice a len cap) l := by
  rcases h with ⟨rfl, rfl, rfl, rfl⟩ | ⟨x, rfl, hl, hm, hz, hc, hw⟩
  · exact ⟨[], rfl, By.nil w⟩
  · have hln : (Lib.bytesOf (zs.take len)).length = len := by simp [Lib.bytesOf]; omega
    refine ⟨Lib.bytesOf (zs.take len), hln, some x, cap, by rw [hln], by rw [hln]; exact hl, hm, (fun e => by cases e), fun b e i y hy => ?_⟩
    injection e with e
    subst e
    have hi : i < len := by rw [← hln]; exact (List.getElem?_eq_some_iff.1 hy).1
    rw [hc i (by omega)]
    have hiz : i < zs.length := by omega
    simp only [Lib.bytesOf, List.getElem?_map, List.getElem?_take, hi, if_true, List.getElem?_eq_getElem hiz, Option.map_some, Option.some.injEq] at hy
    have hwf := hw zs[i] (List.getElem_mem hiz)
    have h1 : IntKind.u8.min = 0 := rfl
    have h2 : IntKind.u8.max = 255 := rfl
    simp only [Lit.wf, Bool.and_eq_true, decide_eq_true_eq] at hwf
    simp only [List.getD, List.getElem?_eq_getElem hiz, Option.getD_some, Option.some.injEq, bv, Value.int.injEq, true_and]
    rw [← hy]
    simp
    omega

/-! ## The program's -/

theorem joinTail_nil (r : List (List UInt8)) : Lib.joinTail [] r = r.flatten := by
  unfold Lib.joinTail
  congr 1
  conv => rhs; rw [← List.map_id r]
  apply List.map_congr_left
  intro x _
  rfl

theorem join_flatten (ls : List (List UInt8)) : Lib.join ls [] = ls.flatten := by
  cases ls with
  | nil => rfl
  | cons x r => rw [Lib.join_cons, joinTail_nil]; rfl

theorem holds_nil (w : World) : Lib.HoldsBytes w (.slice none 0 0) [] := ⟨none, 0, rfl, fun _ => rfl, fun a h => by cases h⟩

/-- Parts that lie in a block just made. -/
theorem parts_new {w : World} {t : TypeId} {vs : List Value} {ls : List (List UInt8)} (hl : vs.length = ls.length) (h : ∀ (i : Nat) v l, vs[i]? = some v → ls[i]? = some l → By w v l) :
    Lib.PartsAt (w.alloc (.cells vs.toArray t)) ⟨w.heap.size, 0, none⟩ vs ls := by
  refine ⟨hl, fun i v hv => ?_, fun i v l hv hl' => ((h i v l hv hl').alloc _).holds⟩
  rw [add_lit0, Nat.zero_add, cell_of_row _ _ i vs.toArray t (0, 0) (heap_alloc_new w _)]
  simpa using hv

/-- '[]byte(s)': some slice of s's bytes in a new block. -/
theorem conv_string (w : World) (s : ByteArray) (hs : s.size ≤ 1000000) :
    ∃ (q : Nat) (w' : World), (convert 9 87 (.string s)).run Try.prog w = .ok (.slice (some ⟨w.heap.size, 0, none⟩) s.size q) w' ∧ By w' (.slice (some ⟨w.heap.size, 0, none⟩) s.size q) s.data.toList ∧ Below w.heap.size w w' ∧ w.heap.size < w'.heap.size := by
  have hl : s.data.toList.length = s.size := by rw [Array.length_toList]; rfl
  refine ⟨_, _, run_bytes_of_string (P := Try.prog) w 9 87 5 s Try.underlying9 Try.underlying87 Try.underlying5, ?_, ?_, ?_⟩
  · have h1 := grownCap_ge w s.size 0 5
    have h2 := grownCap_le_maxLen w s.size 0 5 (by simp only [maxLen]; omega)
    generalize grownCap w s.size 0 5 = q at h1 h2
    refine ⟨_, q, by rw [hl], by rw [hl]; exact h1, h2, (fun e => by cases e), fun a e i x hx => ?_⟩
    injection e with e
    subst e
    have hi : i < s.size := by rw [← hl]; exact (List.getElem?_eq_some_iff.1 hx).1
    rw [add_lit0, Nat.zero_add]
    have := World.cell?_alloc_mark w.drew (bytesRow s q) 5 ((bytesRow s q).size, (bytesRow s q).size + 1) i
    rw [show w.drew.heap.size = w.heap.size from rfl] at this
    rw [this]
    have hx' : s.data[i]? = some x := by simpa using hx
    have hi' : i < s.data.size := hi
    unfold bytesRow
    rw [Array.getElem?_append_left (by simpa using hi'), Array.getElem?_map, hx']
    rfl
  · exact (Below.refl _ w).drew.alloc (Nat.le_refl _) _
  · simp

end Go.Proofs.Ytokmmmpijcbknaa
