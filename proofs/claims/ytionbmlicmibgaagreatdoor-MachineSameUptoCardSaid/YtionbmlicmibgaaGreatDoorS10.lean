/- Several texts made one: SoFacts SoBnd SoEqv. -/
import Derived.Test.YtionbmlicmibgaaGreatDoorS9
/- What the laws lean on, plainly; what stays where a store's maps change. -/
namespace Go.Proofs.YtionbmlicmibgaaGreatDoor
set_option linter.unusedVariables false
set_option linter.unusedSimpArgs false
open Go.RowKit

theorem tr_fst (R : List Tr) : R.map (·.t) = (R.map Tr.pl).map Prod.fst := by rw [List.map_map]; rfl
section
variable {w w' : World} {gs bm : Nat} {R R' : List Tr}
theorem SoIs.ne_at (h : SoIs w gs bm R) {a : Addr} {u : Value} (hc : w.cell? a = some u) : ¬ SoM bm R a.block := by
 obtain ⟨g, i, sp⟩ := a
 rintro (rfl | ⟨x, hx, hb⟩)
 ·obtain ⟨D, hD⟩ := h.map
  obtain ⟨es, clock, hb, _⟩ := hD.map
  unfold World.cell? at hc
  simp only [hb] at hc
  cases hc
 ·dsimp only at hb
  subst hb
  obtain ⟨D, hD⟩ := (h.fo x hx).bag
  obtain ⟨es, clock, hb, _⟩ := hD.map
  unfold World.cell? at hc
  simp only [hb] at hc
  cases hc
theorem By.keep (h : SoIs w gs bm R) (hc : Chg w w' (SoM bm R)) {v : Value} {l : List UInt8} (hv : By w v l) : By w' v l := by
 obtain ⟨p, c, e, h1, h2, h3, h4⟩ := hv
 exact ⟨p, c, e, h1, h2, h3, fun a ha i x hi => hc.cell (h4 a ha i x hi) (h.ne_at (h4 a ha i x hi))⟩
end
end Go.Proofs.YtionbmlicmibgaaGreatDoor
/- Many spans of one trace: how many are left out, and why. -/
namespace Go.Proofs.YtionbmlicmibgaaGreatDoor
set_option linter.unusedVariables false
set_option linter.unusedSimpArgs false
open Go.RowKit

def modOfB (m : Nat) (x : Int) : Nat := (wrap64 ((IntKind.u64.wrap x).tmod m)).toNat
theorem modOfB_ok {m : Nat} (h0 : 0 < m) (hm : m ≤ 1048576) (x : Int) : (modOfB m x : Int) = wrap64 ((IntKind.u64.wrap x).tmod m) ∧ modOfB m x < m := by
 obtain ⟨y, hy⟩ : ∃ y : Nat, IntKind.u64.wrap x = y := ⟨(IntKind.u64.wrap x).toNat, by
  have h1 : 0 ≤ IntKind.u64.wrap x := by
   rw [IntKind.wrap_u64]
   omega
  omega⟩
 have h2 : (IntKind.u64.wrap x).tmod m = ((y % m : Nat) : Int) := by
  rw [hy]
  exact Int.ofNat_tmod y m
 have h4 : y % m < m := Nat.mod_lt _ h0
 have h3 : wrap64 ((y % m : Nat) : Int) = ((y % m : Nat) : Int) := by
  unfold wrap64
  omega
 unfold modOfB
 rw [h2, h3]
 omega
end Go.Proofs.YtionbmlicmibgaaGreatDoor
/- A store with each trace's spans in their order; two stores that tell the same; what is read out of an image. -/
namespace Go.Proofs.YtionbmlicmibgaaGreatDoor
set_option linter.unusedVariables false
set_option linter.unusedSimpArgs false

def nm (y : Pl) : Pl := (y.1, sortS y.2)
end Go.Proofs.YtionbmlicmibgaaGreatDoor
