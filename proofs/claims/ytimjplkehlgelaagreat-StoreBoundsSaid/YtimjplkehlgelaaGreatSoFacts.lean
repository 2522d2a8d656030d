/- What the laws lean on, plainly; what stays where a store's maps change. -/
import Derived.Test.YtimjplkehlgelaaGreatSoPlay
namespace Go.Proofs.YtimjplkehlgelaaGreat
set_option linter.unusedVariables false
set_option linter.unusedSimpArgs false
open Go.RowKit

theorem put1_again {S : List Pl} (h : SoOk S) {y : Pl} (hy : y ∈ S) {x : Sp} (hx : x ∈ y.2) : put1 S x = (S, ⟨0, 1, 0, 0, 0⟩) := by
  have hyo := (h.ok y hy).1
  have ht : x.t = y.1 := (hyo.ok x hx).2
  have hf : fndK kP S x.t = some y := by rw [ht]; exact fndK_of h.rises.ids hy
  have hp : putP y.2 cn0 x = (y.2, ⟨0, 1, 0, 0, 0⟩) := by
    unfold putP
    rw [fnd_of hyo.ids hx]
    dsimp only
    rw [if_pos rfl]
    rfl
  unfold put1
  rw [hf]
  dsimp only
  rw [hp, ht]
  exact congrArg (fun s => (s, (⟨0, 1, 0, 0, 0⟩ : Cn))) (insK_self h.rises (x := y) hy)
theorem puts_again {S : List Pl} (h : SoOk S) {y : Pl} (hy : y ∈ S) : ∀ {l : List Sp}, (∀ x ∈ l, x ∈ y.2) → puts S l = (S, ⟨0, l.length, 0, 0, 0⟩)
  | [], _ => rfl
  | x :: r, hl => by
    have h1 := put1_again h hy (hl x (List.mem_cons_self ..))
    have h2 := puts_again h hy (l := r) fun z hz => hl z (List.mem_cons_of_mem _ hz)
    unfold puts
    rw [h1]
    dsimp only
    rw [h2]
    unfold Cn.plus
    simp
    omega
theorem ing_again {S : List Pl} (h : SoOk S) {y : Pl} (hy : y ∈ S) {l : List Sp} (hl : ∀ x ∈ l, x ∈ y.2) : ingS S l = S ∧ ingC S l = ⟨0, l.length, 0, 0, 0⟩ ∧ ingE l = 0 := by
  have ha : l.all Sp.ok = true := List.all_eq_true.2 fun x hx => ((h.ok y hy).1.ok x (hl x hx)).1
  unfold ingS ingC ingE
  rw [if_pos ha, if_pos ha, if_pos ha, puts_again h hy hl]
  exact ⟨rfl, rfl, rfl⟩
/-- The spans that a trace's branches show. -/
def spsOf (L : List Sp) : List Sp := (brs (sortS L)).map Br.s
theorem fo_perm {t : Int} {L : List Sp} (h : FoOk t L) : (spsOf L).Perm L := by
  obtain ⟨r, hr⟩ := h.sort.tidy
  exact (brs_perm hr h.sort.len).trans (sortS_perm L)
theorem spsOf_len {t : Int} {L : List Sp} (h : FoOk t L) : (spsOf L).length = L.length := (fo_perm h).length_eq
theorem lookS_of {S : List Pl} (h : SoOk S) {y : Pl} (hy : y ∈ S) : lookS S y.1 = brs (sortS y.2) := by
  unfold lookS
  rw [show fndK kP S y.1 = some y from fndK_of h.rises.ids hy]
theorem tr_fst (R : List Tr) : R.map (·.t) = (R.map Tr.pl).map Prod.fst := by rw [List.map_map]; rfl
section
variable {w w' : World} {gs bm : Nat} {R R' : List Tr}
theorem SoIs.ne_at (h : SoIs w gs bm R) {a : Addr} {u : Value} (hc : w.cell? a = some u) : ¬ SoM bm R a.block := by
  obtain ⟨g, i, sp⟩ := a
  rintro (rfl | ⟨x, hx, hb⟩)
  · obtain ⟨D, hD⟩ := h.map
    obtain ⟨es, clock, hb, _⟩ := hD.map
    unfold World.cell? at hc
    simp only [hb] at hc
    cases hc
  · dsimp only at hb
    subst hb
    obtain ⟨D, hD⟩ := (h.fo x hx).bag
    obtain ⟨es, clock, hb, _⟩ := hD.map
    unfold World.cell? at hc
    simp only [hb] at hc
    cases hc
theorem By.keep (h : SoIs w gs bm R) (hc : Chg w w' (SoM bm R)) {v : Value} {l : List UInt8} (hv : By w v l) : By w' v l := by
  obtain ⟨p, c, e, h1, h2, h3, h4⟩ := hv
  exact ⟨p, c, e, h1, h2, h3, fun a ha i x hi => hc.cell (h4 a ha i x hi) (h.ne_at (h4 a ha i x hi))⟩
theorem SoIs.ne_row (h : SoIs w gs bm R) {g : Nat} {cs : Array Value} {ty : TypeId} {m : Nat × Nat} (hr : w.heap[g]? = some (.cells cs ty m)) : ¬ SoM bm R g := by
  rintro (rfl | ⟨x, hx, rfl⟩)
  · obtain ⟨D, hD⟩ := h.map
    obtain ⟨es, clock, hb, _⟩ := hD.map
    rw [hb] at hr
    cases hr
  · obtain ⟨D, hD⟩ := (h.fo x hx).bag
    obtain ⟨es, clock, hb, _⟩ := hD.map
    rw [hb] at hr
    cases hr
theorem row_keepM (h : SoIs w gs bm R) (hc : Chg w w' (SoM bm R)) {B n z : Nat} {e : TypeId} {v : Value} {xs : List Value} (hr : w.ownsRow B e z v n xs) : w'.ownsRow B e z v n xs :=
  ownsRow_chgN hr hc fun k hk => by
    obtain ⟨cur, hh⟩ := ownsRow_kind hr hk
    exact h.ne_row hh
end
end Go.Proofs.YtimjplkehlgelaaGreat
