import Derived.Test.YtionbmlicmibgaaGreatDoorMcPlay
import Derived.Test.YtionbmlicmibgaaGreatDoorMcCln
import Derived.Test.YtionbmlicmibgaaGreatDoorMcAw
import Derived.Test.YtionbmlicmibgaaGreatDoorSoSame
namespace Go.Proofs.YtionbmlicmibgaaGreatDoor
set_option linter.unusedVariables false
set_option linter.unusedSimpArgs false
open Go.RowKit
theorem bthen {w a b : World} (h : Below w.heap.size w a) (k : Below a.heap.size a b) : Below w.heap.size w b := h.trans (k.mono h.size)
theorem mimage_is {w : World} {gm : Nat} {P : Pm} {m : Mp} (h : MkIs w gm P m) : Calls Tryz.prog 39 #[.pointer (some ⟨gm, 0, none⟩)] w fun e w' => ∃ p n c, e = .returned (.slice p n c) ∧ Own w.heap.size w' (.slice p n c) (imgM m) ∧ Below w.heap.size w w' := by
 have h1 := imgS_len h.is.so.ok
 rw [h.is.pl] at h1
 have h2 := imgT_len h.is.tb.ok
 exact (mimage_any h (by omega) (by omega)).mono fun e w' ⟨v, he, ho, hb⟩ => by
  obtain ⟨p, n, c, rfl⟩ := ho.by_.sl
  exact ⟨p, n, c, he, ho, hb⟩
def TrsR (w : World) (v : Value) (m : Mp) : Prop := ∃ B, w.ownsRow B 3 1 v m.S.length ((m.S.map (·.1)).map (Value.int .i64))
theorem TrsR.below {w w' : World} {v : Value} {m : Mp} (h : TrsR w v m) (hb : Below w.heap.size w w') : TrsR w' v m := by
 obtain ⟨B, h⟩ := h
 exact ⟨B, row_below h hb⟩
theorem mtraces_is {w : World} {gm : Nat} {P : Pm} {m : Mp} (h : MkIs w gm P m) : Calls Tryz.prog 42 #[.pointer (some ⟨gm, 0, none⟩)] w fun e w' => ∃ p n c, e = .returned (.slice p n c) ∧ TrsR w' (.slice p n c) m ∧ Below w.heap.size w w' := (mtraces_tell h).mono fun e w' ⟨v, he, ho, hb⟩ => by
 have hl : P.R.length = m.S.length := by rw [← h.is.pl, List.length_map]
 rw [hl, tr_fst, h.is.pl] at ho
 obtain ⟨p, c, rfl, _⟩ := ints_row ho
 exact ⟨p, _, c, he, ⟨_, ho⟩, hb⟩
theorem eqTrs_any {w : World} {p : Option Addr} {n c : Nat} {p' : Option Addr} {n' c' : Nat} {m m' : Mp} (h : TrsR w (.slice p n c) m) (h' : TrsR w (.slice p' n' c') m') (e : m'.S.map (·.1) = m.S.map (·.1)) : Calls Tryz.prog 30 #[.slice p n c, .slice p' n' c'] w fun e w' => e = .returned (.bool true) ∧ Below w.heap.size w w' := by
 obtain ⟨B, h⟩ := h
 obtain ⟨B', h'⟩ := h'
 have hl : m'.S.length = m.S.length := by have := congrArg List.length e; simpa using this
 rw [e, hl] at h'
 exact eqI_any h h'
theorem mseats_is {w : World} {gm : Nat} {P : Pm} {m : Mp} (h : MkIs w gm P m) : Calls Tryz.prog 44 #[.pointer (some ⟨gm, 0, none⟩)] w fun e w' => ∃ p n c, e = .returned (.slice p n c) ∧ Sts w' (.slice p n c) m.L ∧ Below w.heap.size w w' := (mseats_tell h).mono fun e w' ⟨v, he, ho, hb⟩ => by
 obtain ⟨p, n, c, rfl⟩ := ho.sts.sl
 exact ⟨p, n, c, he, ho.sts, hb⟩
theorem equalT_true {w : World} {v1 v2 : Value} {l : List St} (h1 : Sts w v1 l) (h2 : Sts w v2 l) : Calls Tryz.prog 45 #[v1, v2] w fun e w' => e = .returned (.bool true) ∧ Below w.heap.size w w' :=
 (equalSt_any h1 h2).mono fun e w' ⟨he, q, hw⟩ => ⟨by rw [he, decide_eq_true rfl], by rw [hw]; exact bdrew w q⟩
theorem cmdM_ix (m : Mp) (c : Option Cm) : (cmdM m c).2.2.ix = m.ix ∧ (cmdM m c).2.2.tm = m.tm := by
 cases c with
 | none => exact ⟨rfl, rfl⟩
 | some c =>
  unfold cmdM ingM
  dsimp only
  split
  ·exact ⟨rfl, rfl⟩
  ·split
   ·split <;> exact ⟨rfl, rfl⟩
   ·split
    ·exact ⟨rfl, rfl⟩
    ·split
     ·exact ⟨rfl, rfl⟩
     ·split <;> exact ⟨rfl, rfl⟩
theorem doM_ix (m : Mp) (ix tm : Int) (l : List UInt8) : (doM m ix tm l).2.ix = ix ∧ (doM m ix tm l).2.tm = tm := by
 have h := cmdM_ix { m with ix := ix, tm := tm } (getC l)
 unfold doM
 split <;> exact h
theorem nxt_ix {m : Mp} {i t : Int} (h : m.nxt i t = true) : i = m.ix + 1 := by
 unfold Mp.nxt at h
 simp at h
 exact h.1
theorem stepM_ix (m : Mp) (d : Dm) : (stepM m d).ix ≤ m.ix + 1 := by
 unfold stepM appM
 split
 ·rename_i h
  have := nxt_ix h
  have := (doM_ix m (d.eI m.ix) (d.eT m.tm) d.eL).1
  dsimp only
  omega
 ·dsimp only; omega
theorem playM_ix (D : List Dm) (m : Mp) : (playM m D).ix ≤ m.ix + D.length := by
 unfold playM
 induction D generalizing m with
 | nil => simp
 | cons d r ih =>
  have h1 := stepM_ix m d
  have h2 := ih (stepM m d)
  rw [List.foldl_cons, List.length_cons]
  omega
end Go.Proofs.YtionbmlicmibgaaGreatDoor
