/- The program's Sort and Less, the document's Less. -/
import Derived.Test.YtimjplkehlgelaaSpSortF
namespace Go.Proofs.Ytimjplkehlgelaa
set_option linter.unusedVariables false
set_option linter.unusedSimpArgs false
open Go.RowKit Go.Sort

set_option maxRecDepth 200000 in
set_option maxHeartbeats 1000000 in
/-- span.Sort. -/
theorem sort_any {w : World} {v : Value} {l : List Sp} (hv : Sps w v l) (hl : l.length ≤ 1000000) : Calls Try.prog 68 #[v] w fun e w' => ∃ v', e = .returned v' ∧ OwnS w.heap.size w' v' (sortS l) ∧ Below w.heap.size w w' := by
  obtain ⟨p, n, c, rfl⟩ := hv.sl
  have HV := hide hv
  clear hv
  go_enter Try.func68, Try.ntmps68
  go_wp2_with fail
  refine (cloneSp_any HV.out hl).mono ?_
  rintro e1 w1 ⟨v1, rfl, ho1, hb1⟩
  obtain ⟨p1, n1, c1, rfl⟩ := ho1.sps.sl
  have HO := hide ho1
  have HB := hide hb1
  clear ho1 hb1
  go_wp2_with fail
  refine (sortFunc_any HO.out hl).mono ?_
  rintro e2 w2 ⟨rfl, ho2, hg2⟩
  have HO2 := hide ho2
  have HG2 := hide hg2
  clear ho2 hg2
  go_wp2
  go_ret
  exact ⟨_, rfl, HO2.out, HB.out.grown HG2.out HB.out.size (fun k hk => (HO.out.lt k hk).1)⟩

theorem bel_drewN' {B : Nat} {w V : World} (h : RowKit.Below B w V) (q : Nat) : RowKit.Below B w (V.drewN q) := ⟨h.os, h.tape, h.output, h.size, h.block⟩
theorem below_growB {B : Nat} {w V : World} (h : RowKit.Below B w V) (hB : B ≤ V.heap.size) (os : Array Obj) : RowKit.Below B w (grow V os) :=
  ⟨h.os, h.tape, h.output, by
    show _ ≤ (V.heap ++ os).size
    have := h.size
    rw [Array.size_append]
    omega, fun k hk => by
    show (V.heap ++ os)[k]? = _
    rw [Array.getElem?_append_left (by omega)]
    exact h.block k hk⟩

/-- Which of two rows of numbers is the lesser; if they are alike, r. -/
def lessL : List Int → List Int → Bool → Bool
  | x :: xs, y :: ys, r => if x ≠ y then decide (x < y) else lessL xs ys r
  | _, _, r => r
theorem bytesLess_eq : ∀ a b : List UInt8, Op.bytesLess a b = decide (Lib.compareBytes a b < 0)
  | [], [] => rfl
  | [], _ :: _ => rfl
  | _ :: _, [] => rfl
  | x :: a, y :: b => by
    have ih := bytesLess_eq a b
    simp only [Op.bytesLess, Lib.compareBytes, ih]
    by_cases h1 : x < y
    · simp [h1]
    · by_cases h2 : y < x
      · have h3 : ¬ x = y := by rintro rfl; exact h1 h2
        simp [h1, h2, h3]
      · have h3 : x = y := UInt8.le_antisymm (UInt8.not_lt.1 h2) (UInt8.not_lt.1 h1)
        simp [h1, h2, h3]
theorem lessL_ltS (x y : Sp) : ltS x y = lessL [x.t, x.s, x.i, x.p, x.e] [y.t, y.s, y.i, y.p, y.e] (Op.bytesLess x.n.toList y.n.toList) := by
  rw [bytesLess_eq, ByteArray.toList_eq, ByteArray.toList_eq]
  unfold ltS cmpS lexC lessL lessL lessL lessL lessL lessL
  dsimp only [Sp.nl]
  have key : ∀ a b : Int, (Lib.compareInt a b ≠ 0 ↔ a ≠ b) ∧ (Lib.compareInt a b < 0 ↔ a < b) := fun a b => by
    unfold Lib.compareInt
    (repeat' split) <;> constructor <;> constructor <;> intro h <;> omega
  simp only [(key _ _).1]
  (repeat' split) <;> first | rfl | (rw [decide_eq_decide]; exact (key _ _).2)
theorem lessL_drop {xs ys : List Int} {k : Nat} {x y : Int} (hx : xs[k]? = some x) (hy : ys[k]? = some y) (r : Bool) : lessL (xs.drop k) (ys.drop k) r = if x ≠ y then decide (x < y) else lessL (xs.drop (k + 1)) (ys.drop (k + 1)) r := by
  have hk := (List.getElem?_eq_some_iff.1 hx).1
  have hk' := (List.getElem?_eq_some_iff.1 hy).1
  rw [List.drop_eq_getElem_cons hk, List.drop_eq_getElem_cons hk']
  rw [List.getElem?_eq_getElem hk] at hx
  rw [List.getElem?_eq_getElem hk'] at hy
  injection hx with hx
  injection hy with hy
  rw [hx, hy]
  rfl

end Go.Proofs.Ytimjplkehlgelaa
