/- A number read off the beginning of bytes: by the document and by the program's strip. -/
import Derived.Test.YtokmmmpijcbknaaCut
import Derived.Deep.QuietTactic
import Derived.BigQuiet
import Derived.LoopTactic
namespace Go.Proofs.Ytokmmmpijcbknaa
open Go.RowKit

/-- What stands at the beginning of bytes behind i of a number's own, which came to n: the number, how many bytes it has, the error. -/
def rd : List UInt8 → Nat → Nat → Nat × Nat × Nat
  | [], _, _ => (0, 0, 2)
  | x :: r, i, n => if i = 0 ∧ x.toNat = 128 then (0, 0, 10) else if i = 9 then (0, 0, 5) else if x.toNat < 128 then (n * 128 + x.toNat % 128, i + 1, 0) else rd r (i + 1) (n * 128 + x.toNat % 128)
def readNum (b : List UInt8) : Nat × Nat × Nat := rd b 0 0

theorem rd_at {l : List UInt8} {i : Nat} {x : UInt8} (hx : l[i]? = some x) (n : Nat) :
    rd (l.drop i) i n = if i = 0 ∧ x.toNat = 128 then (0, 0, 10) else if i = 9 then (0, 0, 5) else if x.toNat < 128 then (n * 128 + x.toNat % 128, i + 1, 0) else rd (l.drop (i + 1)) (i + 1) (n * 128 + x.toNat % 128) := by
  have hi := (List.getElem?_eq_some_iff.1 hx).1
  rw [List.drop_eq_getElem_cons hi, (List.getElem?_eq_some_iff.1 hx).2]
  rfl

theorem rd_end {l : List UInt8} {i : Nat} (hi : l.length ≤ i) (n : Nat) : rd (l.drop i) i n = (0, 0, 2) := by
  rw [List.drop_eq_nil_of_le hi]
  rfl

theorem ret3 {k1 k2 k3 : IntKind} {a a' b b' c c' : Int} (h1 : a = a') (h2 : b = b') (h3 : c = c') : Ending.returned (.tuple #[.int k1 a, .int k2 b, .int k3 c]) = .returned (.tuple #[.int k1 a', .int k2 b', .int k3 c']) := by
  rw [h1, h2, h3]
theorem ret2 {k1 k2 : IntKind} {a a' b b' : Int} (h1 : a = a') (h2 : b = b') : Ending.returned (.tuple #[.int k1 a, .int k2 b]) = .returned (.tuple #[.int k1 a', .int k2 b']) := by
  rw [h1, h2]

theorem or_all7 : ∀ y : Fin 256, bits BinOp.and IntKind.u8 ((y.val : Nat) : Int) 127 = ((y.val % 128 : Nat) : Int) := and_all
theorem and_u8 (x : UInt8) : bits BinOp.and IntKind.u8 (x.toNat : Int) 127 = ((x.toNat % 128 : Nat) : Int) := and_all ⟨x.toNat, x.toNat_lt⟩

theorem i64_or7 (z y : Nat) (hz : z < 128 ^ 8) (hy : y < 128) : bits BinOp.or IntKind.i64 ((z : Int) * 128) (y : Int) = ((z * 128 + y : Nat) : Int) := by
  have e : z * 128 + y = (z * 128) ||| y := by
    have := Nat.shiftLeft_add_eq_or_of_lt (i := 7) (b := y) (by omega) z
    rw [Nat.shiftLeft_eq] at this
    exact this
  have hx : (z * 128) ||| y < 9223372036854775808 := by rw [← e]; omega
  have e2 : ((z : Int) * 128) = ((z * 128 : Nat) : Int) := by omega
  rw [e, e2]
  show IntKind.i64.wrap ((BitVec.ofInt 64 ((z * 128 : Nat) : Int) ||| BitVec.ofInt 64 (y : Int)).toNat : Int) = _
  rw [BitVec.toNat_or, BitVec.ofInt_natCast, BitVec.ofInt_natCast, BitVec.toNat_ofNat, BitVec.toNat_ofNat, Nat.mod_eq_of_lt (by omega), Nat.mod_eq_of_lt (by omega), IntKind.wrap_i64]
  omega

theorem grown_drewN {w w' : World} {row : Option Nat} (h : w.grownBy w' row) (n : Nat) : w.grownBy (w'.drewN n) row := ⟨h.os, h.tape, h.output, h.size, h.block⟩

/-- What a strip's number leaves. -/
def NumPost (w : World) (g t : Nat) (cs : Array Value) (at_ N K E : Nat) (e : Ending) (w' : World) : Prop :=
  e = .returned (.tuple #[.int .i64 N, .int .i64 E]) ∧ w'.heap[g]? = some (.cells (cs.setIfInBounds 1 (.int .i64 ((at_ + K : Nat) : Int))) t (0, 0)) ∧ w.grownBy w' (some g)

end Go.Proofs.Ytokmmmpijcbknaa
