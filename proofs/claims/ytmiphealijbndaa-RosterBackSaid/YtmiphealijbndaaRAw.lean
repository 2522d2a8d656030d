/- awake; lists that came in. -/
import Derived.Test.YtmiphealijbndaaRRefAgr
import Derived.Deep.Matrix
import Derived.Deep.Fields
import Derived.ChangeOld
import Derived.OpenShut
namespace Go.Proofs.Ytmiphealijbndaa
set_option linter.unusedVariables false
set_option linter.unusedSimpArgs false
open Go.RowKit Go.Deep Go.ChangeShapes

theorem lit_own (w : World) (l : List Int) (hf : ∀ x ∈ l, fits x) (h : l.length ≤ maxLen) : OwnN w.heap.size (w.alloc (.cells (l.map (Value.int .i64)).toArray 3)) (.slice (some ⟨w.heap.size, 0, none⟩) l.length l.length) l :=
  ⟨by
    have := World.ownsRow_lit (base := w.heap.size) (e := 3) (size := 1) w (l.map (Value.int .i64)).toArray l.length (Nat.le_refl _) h (by simp)
    simpa using this, hf⟩
theorem fits_small {l : List Int} (h : l.all (fun x => decide (0 ≤ x) && decide (x ≤ 100)) = true) : ∀ x ∈ l, fits x := by
  intro x hx
  have := List.all_eq_true.1 h x hx
  simp only [Bool.and_eq_true, decide_eq_true_eq] at this
  unfold fits
  omega

/-- Two lists are laid, one behind the other. -/
theorem two_lits (w : World) (l m : List Int) (hl : l.all (fun x => decide (0 ≤ x) && decide (x ≤ 100)) = true) (hm : m.all (fun x => decide (0 ≤ x) && decide (x ≤ 100)) = true) (h1 : l.length ≤ 100) (h2 : m.length ≤ 100) :
    Ns ((w.alloc (.cells (l.map (Value.int .i64)).toArray 3)).alloc (.cells (m.map (Value.int .i64)).toArray 3)) (.slice (some ⟨w.heap.size, 0, none⟩) l.length l.length) l ∧
    Ns ((w.alloc (.cells (l.map (Value.int .i64)).toArray 3)).alloc (.cells (m.map (Value.int .i64)).toArray 3)) (.slice (some ⟨w.heap.size + 1, 0, none⟩) m.length m.length) m ∧
    Below w.heap.size w ((w.alloc (.cells (l.map (Value.int .i64)).toArray 3)).alloc (.cells (m.map (Value.int .i64)).toArray 3)) := by
  have o1 := lit_own w l (fits_small hl) (by unfold maxLen; omega)
  have o2 := lit_own (w.alloc (.cells (l.map (Value.int .i64)).toArray 3)) m (fits_small hm) (by unfold maxLen; omega)
  have b1 := (Below.refl w.heap.size w).alloc (Nat.le_refl _) (.cells (l.map (Value.int .i64)).toArray 3)
  refine ⟨o1.ns.below ((Below.refl _ _).alloc (Nat.le_refl _) _), ?_, b1.alloc b1.size _⟩
  have e : (w.alloc (.cells (l.map (Value.int .i64)).toArray 3)).heap.size = w.heap.size + 1 := by simp
  rw [e] at o2
  exact o2.ns

set_option maxRecDepth 200000 in
set_option maxHeartbeats 4000000 in
theorem awake_any (w : World) : Calls Try.prog 12 #[] w fun e w' => e = .returned (.bool true) ∧ Below w.heap.size w w' := by
  obtain ⟨s1, s2, s3⟩ := two_lits w [0, 1, 2] [1, 2] (by decide) (by decide) (by decide) (by decide)
  have H1 := hide (majority_any s1 s2)
  have HT : ∀ w1 : World, _ := fun w1 => two_lits w1 [0, 1, 2] [0, 1, 3] (by decide) (by decide) (by decide) (by decide)
  have H2 := hide (fun w1 => may_any (HT w1).1 (HT w1).2.1 (by decide) (by decide))
  have HU : ∀ w1 : World, _ := fun w1 => two_lits w1 [0, 1, 2, 4] [7, 3, 5, 9, 4] (by decide) (by decide) (by decide) (by decide)
  have H3 := hide (fun w1 => agreed_any (HU w1).1 (HU w1).2.1)
  have HT2 := hide (fun w1 => (HT w1).2.2)
  have HU2 := hide (fun w1 => (HU w1).2.2)
  have HB := hide s3
  have e1 : maj [0, 1, 2] [1, 2] = true := by decide
  have e2 : mayI [0, 1, 2] [0, 1, 3] = 101 := by decide
  have e3 : agrV [0, 1, 2, 4] [7, 3, 5, 9, 4] = 4 := (agrV_agr (V := [0, 1, 2, 4]) [7, 3, 5, 9, 4] (by decide)).one (b := 4) (by decide) (.inr (by decide)) (by decide) |>.symm
  unfold Maj at H1
  unfold MayPost at H2
  rw [e1] at H1
  rw [e2] at H2
  rw [e3] at H3
  simp only [List.map_cons, List.map_nil, List.length_cons, List.length_nil, Nat.zero_add, Nat.reduceAdd] at H1 H2 H3 HT2 HU2 HB
  clear s1 s2 s3 HT HU e1 e2 e3
  go_enter Try.func12, Try.ntmps12
  go_wp2_with fail
  refine H1.out.mono ?_
  rintro e w1 ⟨rfl, hw⟩
  have HB1 : Hid (Below w.heap.size w w1) := hide (by rw [← hw]; exact HB.out)
  clear hw
  go_wp2_with fail
  refine (H2.out w1).mono ?_
  rintro e w2 ⟨rfl, hb2⟩
  have HB2 : Hid (Below w.heap.size w w2) := hide (HB1.out.trans (((HT2.out w1).trans (hb2.mono (HT2.out w1).size)).mono HB1.out.size))
  clear hb2
  go_wp2_with fail
  refine (H3.out w2).mono ?_
  rintro e w3 ⟨rfl, hb3⟩
  have HB3 : Hid (Below w.heap.size w w3) := hide (HB2.out.trans (((HU2.out w2).trans (hb3.mono (HU2.out w2).size)).mono HB2.out.size))
  clear hb3
  go_wp2
  go_ret
  exact ⟨rfl, HB3.out⟩

theorem Try.cells3 : Try.prog.cellsOf 3 = 1 := by kernel_rfl
theorem ns_of_arg {H : Type} {enc : TypeId × Value → H} {W : World} {a0 : Option Addr} {len cap : Nat} {d0 : DataW H} {p0 : List MemPlace}
    (h : DataW.Trod enc Try.prog W 0 (fun _ => true) true 22 (.slice a0 len cap) d0 p0) : ∃ l : List Int, Ns W (.slice a0 len cap) l := by
  obtain ⟨fuel, hf⟩ := h
  rcases open_ints Try.underlying22 Try.underlying3 Try.cells3 hf with ⟨hcs, _⟩ | ⟨x, l, c, zs, hcs, _, hl, hm, hz, _, hcell, hwz⟩
  · simp [Value.cells] at hcs
    obtain ⟨rfl, rfl, rfl⟩ := hcs
    exact ⟨[], Ns.nil _⟩
  · simp [Value.cells] at hcs
    obtain ⟨rfl, rfl, rfl⟩ := hcs
    have hzl : zs.length = cap := by simpa using hz
    refine ⟨zs.take len, some x, cap, by rw [List.length_take, Nat.min_eq_left (by omega)], by rw [List.length_take]; omega, hm, (fun e => by cases e), fun z hzm => ?_, fun h0 => ?_⟩
    · have hw := hwz z (List.mem_of_mem_take hzm)
      have h1 : IntKind.i64.min = -9223372036854775808 := rfl
      have h2 : IntKind.i64.max = 9223372036854775807 := rfl
      simp only [Lit.wf, Bool.and_eq_true, decide_eq_true_eq] at hw
      unfold fits
      omega
    · rw [List.length_take] at h0
      have hsp := World.cell?_spot (hcell 0 (by omega))
      obtain ⟨b, o, spot⟩ := x
      have hsp0 : spot = none := by
        unfold Addr.add at hsp
        rw [if_pos rfl] at hsp
        exact hsp
      subst hsp0
      refine ⟨b, o, rfl, fun i z hi => ?_⟩
      have hil := (List.getElem?_eq_some_iff.1 hi).1
      rw [List.length_take] at hil
      rw [List.getElem?_take_of_lt (by omega)] at hi
      have hc := hcell i (by omega)
      have hg : zs.getD i 0 = z := by simp [List.getD, hi]
      rw [hg, add_lit0] at hc
      exact hc
end Go.Proofs.Ytmiphealijbndaa
