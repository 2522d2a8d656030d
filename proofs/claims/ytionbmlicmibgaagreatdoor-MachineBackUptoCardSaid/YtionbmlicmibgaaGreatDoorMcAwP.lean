import Derived.Test.YtionbmlicmibgaaGreatDoorMcDo
import Derived.Test.YtionbmlicmibgaaGreatDoorMcApp
namespace Go.Proofs.YtionbmlicmibgaaGreatDoor
set_option linter.unusedVariables false
set_option linter.unusedSimpArgs false
open Go.RowKit
def oneM : Sp := ⟨1, 2, 0, 0, 7, ⟨#[97]⟩⟩
theorem oneM_ok : oneM.ok = true := (Sp.ok_iff _).2 ⟨by decide, by decide, by decide, by decide, by decide, by decide, by decide, by decide, by decide, by decide, by show 1 ≤ [(97 : UInt8)].length; decide, by show [(97 : UInt8)].length ≤ 32; decide, by show [(97 : UInt8)].all okByte = true; decide⟩
theorem spsOk_one : spsOk [oneM] = true := by
 unfold spsOk
 simp [oneM_ok, btw]
theorem put1_oneM : put1 [] oneM = ([(1, [oneM])], ⟨1, 0, 0, 0, 0⟩) := by
 have h : fndK kP [] oneM.t = none := rfl
 unfold put1
 rw [h]
 dsimp only
 rw [if_neg (by simp), putP_nil]
 rfl
theorem ing_oneM : ingS [] [oneM] = [(1, [oneM])] ∧ ingC [] [oneM] = ⟨1, 0, 0, 0, 0⟩ := by
 have ha : [oneM].all Sp.ok = true := by simp [oneM_ok]
 unfold ingS ingC
 rw [if_pos ha, if_pos ha]
 unfold puts puts
 rw [put1_oneM]
 exact ⟨rfl, rfl⟩
def awC : List Cm := [⟨1, 0, 0, 0, [], []⟩, ⟨2, 1, 1, 0, [oneM], []⟩, ⟨2, 1, 1, 0, [oneM], []⟩, ⟨3, 0, 0, 3, [], []⟩, ⟨2, 1, 2, 0, [oneM], []⟩]
def awR1 : Rp := ⟨0, 0, 0, 1, 0, 0, 0, 0⟩
def awR : List Rp := [⟨0, 1, 0, 0, 0, 0, 0, 0⟩, awR1, awR1, ⟨0, 0, 1, 0, 0, 0, 0, 0⟩, ⟨80, 0, 0, 0, 0, 0, 0, 0⟩]
def awM : Nat → Mp
 | 0 => ⟨0, 0, [0, 1, 2], [], []⟩
 | 1 => ⟨1, 1, [0, 1, 2], [], [⟨1, 0, 1, rp0⟩]⟩
 | 2 => ⟨2, 1, [0, 1, 2], [(1, [oneM])], [⟨1, 1, 2, awR1⟩]⟩
 | 3 => ⟨3, 1, [0, 1, 2], [(1, [oneM])], [⟨1, 1, 2, awR1⟩]⟩
 | 4 => ⟨4, 1, [0, 1, 2], [(1, [oneM])], []⟩
 | _ => ⟨5, 1, [0, 1, 2], [(1, [oneM])], []⟩
theorem awC_ok (k : Nat) (c : Cm) (h : awC[k]? = some c) : c.ok = true := by
 have h2 : ∀ q : Int, btw 1 q 1099511627776 = true → (⟨2, 1, q, 0, [oneM], []⟩ : Cm).ok = true := fun q hq => (Cm.ok_iff _).2 (.inr (.inl ⟨rfl, rfl, (by decide : btw 1 1 1099511627776 = true), hq, spsOk_one⟩))
 match k, h with
 | 0, h => simp [awC] at h; subst h; exact (Cm.ok_iff _).2 (.inl ⟨.inr rfl, rfl⟩)
 | 1, h => simp [awC] at h; subst h; exact h2 1 (by decide)
 | 2, h => simp [awC] at h; subst h; exact h2 1 (by decide)
 | 3, h => simp [awC] at h; subst h; exact (Cm.ok_iff _).2 (.inr (.inr (.inl ⟨rfl, rfl, by decide⟩)))
 | 4, h => simp [awC] at h; subst h; exact h2 2 (by decide)
 | k + 5, h => simp [awC] at h
theorem appM_ok {m : Mp} {ix tm : Int} {c : Cm} (hn : m.nxt ix tm = true) (hc : c.ok = true) {r : Rp} {m' : Mp} (h : cmdM { m with ix := ix, tm := tm } (some c) = (r, 0, m')) : appM m ix tm c.bytes = (r, 0, m') := by
 unfold appM
 rw [if_pos hn]
 unfold doM
 rw [getC_bytes hc, h]
 rw [if_pos (show ((r, (0 : Int), m').2.1) = 0 from rfl)]
theorem appM_no {m : Mp} {ix tm : Int} {c : Cm} (hn : m.nxt ix tm = true) (hc : c.ok = true) {r : Rp} {x : Int} {m' : Mp} (h : cmdM { m with ix := ix, tm := tm } (some c) = (r, x, m')) (hx : x ≠ 0) : appM m ix tm c.bytes = (⟨x, 0, 0, 0, 0, 0, 0, 0⟩, 0, m') := by
 unfold appM
 rw [if_pos hn]
 unfold doM
 rw [getC_bytes hc, h]
 rw [if_neg (show ¬ ((r, x, m').2.1) = 0 from hx)]
theorem awStep (k : Nat) (c : Cm) (r : Rp) (h : awC[k]? = some c) (hr : awR[k]? = some r) : appM (awM k) ((k : Int) + 1) 1 c.bytes = (r, 0, awM (k + 1)) := by
 have hok := awC_ok k c h
 match k, h, hr with
 | 0, h, hr =>
  simp [awC] at h
  simp [awR] at hr
  subst h; subst hr
  exact appM_ok (by decide) hok rfl
 | 1, h, hr =>
  simp [awC] at h
  simp [awR] at hr
  subst h; subst hr
  refine appM_ok (by decide) hok ?_
  unfold cmdM
  dsimp only
  rw [if_neg (by decide), if_pos rfl]
  unfold ingM
  dsimp only
  rw [if_neg (by decide)]
  have e1 : ingC (awM 1).S [oneM] = ⟨1, 0, 0, 0, 0⟩ := ing_oneM.2
  have e2 : ingS (awM 1).S [oneM] = [(1, [oneM])] := ing_oneM.1
  rw [e1, e2]
  rfl
 | 2, h, hr =>
  simp [awC] at h
  simp [awR] at hr
  subst h; subst hr
  refine appM_ok (by decide) hok ?_
  unfold cmdM
  dsimp only
  rw [if_neg (by decide), if_pos rfl]
  unfold ingM
  dsimp only
  rw [if_pos (by decide)]
  rfl
 | 3, h, hr =>
  simp [awC] at h
  simp [awR] at hr
  subst h; subst hr
  exact appM_ok (by decide) hok rfl
 | 4, h, hr =>
  simp [awC] at h
  simp [awR] at hr
  subst h; subst hr
  refine appM_no (r := rp0) (x := 80) (by decide) hok ?_ (by decide)
  unfold cmdM
  dsimp only
  rw [if_neg (by decide), if_pos rfl]
  unfold ingM
  dsimp only
  rw [if_pos (by decide)]
  rfl
 | k + 5, h, hr => simp [awC] at h
end Go.Proofs.YtionbmlicmibgaaGreatDoor
