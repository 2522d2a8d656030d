/- A scan: the program's, and the document's. -/
import Derived.Test.YtimjplkehlgelaaWir
import Derived.Deep.RegionHeld3
import Derived.Deep.DrawnRows
import Derived.Laws.StructEq
import Derived.Maps.AppendAt
import Derived.BigGuard
namespace Go.Proofs.Ytimjplkehlgelaa
set_option linter.unusedVariables false
set_option linter.unusedSimpArgs false
open Go.RowKit

/-- Bytes as a text. -/
def str (l : List UInt8) : ByteArray := strOfNums (Lib.numsL l)

theorem str_eq (l : List UInt8) : str l = ⟨l.toArray⟩ := by
  show (⟨(Lib.bytesOf (Lib.numsL l)).toArray⟩ : ByteArray) = _
  rw [Lib.bytesOf_numsL]

theorem str_inj {a b : List UInt8} : str a = str b ↔ a = b := by
  rw [str_eq, str_eq]
  simp

theorem str_beq (a b : List UInt8) : ((str a).toList == (str b).toList) = decide (a = b) := by
  rw [← beq_toListBytes, Bool.eq_iff_iff, str_eq, str_eq, decide_eq_true_eq]
  show (a.toArray == b.toArray) = true ↔ a = b
  simp

theorem conv_by {w : World} {p : Option Addr} {n c : Nat} {l : List UInt8} (h : By w (.slice p n c) l) (q : Nat) : (convert 45 9 (.slice p n c)).run Try.prog (w.drewN q) = .ok (.string (str l)) (w.drewN q) := by
  have h' : By (w.drewN q) (.slice p n c) l := h
  obtain ⟨b, hl⟩ := h'.bytesIn
  exact b.convert hl c 45 5 9 Try.underlying45 Try.underlying5 Try.underlying9

/-- A value's bytes stay where another row alone is written. -/
theorem By.grown {w w' : World} {v : Value} {l : List UInt8} {row : Option Nat} (h : By w v l) (hg : w.grownBy w' row) (hne : l = [] ∨ ∀ k, v.ownBlock = some k → row ≠ some k) : By w' v l := by
  obtain ⟨p, cap, rfl, hl, hm, hn, hc⟩ := h
  refine ⟨p, cap, rfl, hl, hm, hn, fun a e i x hx => ?_⟩
  rcases hne with rfl | hne
  · simp at hx
  · subst e
    refine hg.cell (hc a rfl i x hx) ?_
    rw [block_add]
    exact fun e => hne a.block rfl e.symm

/-- The cells of the program's scan. -/
def scanC (v : Value) (at_ E : Nat) : Array Value := #[v, .int .i64 (at_ : Int), .int .i64 (E : Int), .bool true]

theorem grown_set (w : World) (g i : Nat) (x : Value) : w.grownBy (w.setCell ⟨g, i, none⟩ x) (some g) :=
  ⟨rfl, rfl, rfl, by simp [World.setCell], fun j _ hj => heap_setCell_other w ⟨g, i, none⟩ j _ (fun e => hj (by rw [e]))⟩

theorem rd_bad : ∀ (l : List UInt8) (i z : Nat) {n k e : Nat}, rd l i z = (n, k, e) → e ≠ 0 → n = 0 ∧ k = 0
  | [], i, z, n, k, e, h, he => by simp only [rd, Prod.mk.injEq] at h; omega
  | x :: r, i, z, n, k, e, h, he => by
    rw [rd_cons] at h
    split at h
    · simp only [Prod.mk.injEq] at h; omega
    · split at h
      · simp only [Prod.mk.injEq] at h; omega
      · split at h
        · simp only [Prod.mk.injEq] at h; omega
        · exact rd_bad r _ _ h he

theorem readNum_bad {l : List UInt8} {n k e : Nat} (h : readNum l = (n, k, e)) (he : e ≠ 0) : n = 0 ∧ k = 0 := rd_bad l 0 0 h he

/-- What readNum says of its parts, whatever it says. -/
theorem readNum_any {l : List UInt8} {n k e : Nat} (h : readNum l = (n, k, e)) : k ≤ l.length ∧ n < 9223372036854775808 ∧ k ≤ 9 := by
  by_cases he : e = 0
  · subst he
    obtain ⟨h1, h2, _, h4⟩ := readNum_form h
    refine ⟨h1, Nat.lt_of_lt_of_le h4 ?_, h2⟩
    exact Nat.le_trans (Nat.pow_le_pow_right (by decide) h2) (by decide)
  · obtain ⟨rfl, rfl⟩ := readNum_bad h he
    exact ⟨Nat.zero_le _, by decide, by omega⟩

/-- A text of at most so many bytes, at a place: the text, the place behind, the error. -/
def textB (l : List UInt8) (at_ most N K E : Nat) : List UInt8 × Nat × Nat :=
  if E ≠ 0 then ([], at_, E) else if most < N then ([], at_, 4) else if l.length < at_ + K + N then ([], at_, 2) else ((l.drop (at_ + K)).take N, at_ + K + N, 0)

def textP (l : List UInt8) (at_ most : Nat) : List UInt8 × Nat × Nat := textB l at_ most (readNum (l.drop at_)).1 (readNum (l.drop at_)).2.1 (readNum (l.drop at_)).2.2

theorem str_nil : str [] = ByteArray.empty := rfl

theorem conv_at {w : World} {p : Option Addr} {n c : Nat} {l : List UInt8} (h : By w (.slice p n c) l) : (convert 45 9 (.slice p n c)).run Try.prog w = .ok (.string (str l)) w := conv_by h 0

theorem quiet_same {f : FuncId} {args : Array Value} {w : World} {n : Nat} {v : Value}
    (h : Calls Try.prog f args (w.drewN n) fun e w' => e = .returned v ∧ w.drewN n = w') : Calls Try.prog f args (w.drewN n) fun e w'' => e = .returned v ∧ ∃ m, w'' = w.drewN m :=
  h.mono fun _ _ ⟨he, hm⟩ => ⟨he, n, hm.symm⟩

/-- What is owned lies in no block that is still to come. -/
theorem Own.notNew {B : Nat} {w : World} {v : Value} {l : List UInt8} (h : Own B w v l) : l = [] ∨ ∀ k, v.ownBlock = some k → some w.heap.size ≠ some k := by
  rcases h with ⟨_, rfl⟩ | ⟨g, cap, rfl, _, _, _, hc, _⟩
  · exact .inl rfl
  · cases l with
    | nil => exact .inl rfl
    | cons x r =>
      refine .inr fun k hk e => ?_
      simp only [Value.ownBlock, Option.some.injEq] at hk
      injection e with e
      subst hk
      have := lt_of_cell (hc 0 x rfl)
      simp only at this
      omega

theorem gtrans {a b c : World} {row : Option Nat} (h : a.grownBy b row) (h' : b.grownBy c row) : a.grownBy c row :=
  ⟨h'.os.trans h.os, h'.tape.trans h.tape, h'.output.trans h.output, Nat.le_trans h.size h'.size, fun k hk hr => (h'.block k (Nat.lt_of_lt_of_le hk h.size) hr).trans (h.block k hk hr)⟩

/-- What End tells. -/
def endE (at_ n E : Nat) : Nat := if E ≠ 0 then E else if at_ < n then 3 else 0

/-- The document's scan in the block g. -/
def refC (v : Value) (at_ E : Nat) : Array Value := #[v, .int .i64 (at_ : Int), .int .i64 (E : Int)]

end Go.Proofs.Ytimjplkehlgelaa
