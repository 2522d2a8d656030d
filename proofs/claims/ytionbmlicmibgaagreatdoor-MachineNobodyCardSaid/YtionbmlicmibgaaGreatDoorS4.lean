/- Several texts made one: SpCompare SpSortF SpSort2 FRange FTopP FTop FNob FNew. -/
import Derived.Shelf.SlSortCmp.NoneTotal
import Derived.Deep.RegionHeld3
import Derived.Deep.AppendLies
import Derived.Deep.DrawnRows
import Derived.Test.YtionbmlicmibgaaGreatDoorS3
import Derived.Test.YtionbmlicmibgaaGreatDoorS2
/- Which of two spans stands ahead: the program's compare. -/
namespace Go.Proofs.YtionbmlicmibgaaGreatDoor
set_option linter.unusedVariables false
set_option linter.unusedSimpArgs false
open Go.RowKit Go.Sort

end Go.Proofs.YtionbmlicmibgaaGreatDoor
/- Spans sorted: slices.SortFunc, the program's Sort and Less. -/
namespace Go.Proofs.YtionbmlicmibgaaGreatDoor
set_option linter.unusedVariables false
set_option linter.unusedSimpArgs false
open Go.RowKit Go.Sort Go.Lib

end Go.Proofs.YtionbmlicmibgaaGreatDoor
/- The program's Sort and Less, the document's Less. -/
namespace Go.Proofs.YtionbmlicmibgaaGreatDoor
set_option linter.unusedVariables false
set_option linter.unusedSimpArgs false
open Go.RowKit Go.Sort

end Go.Proofs.YtionbmlicmibgaaGreatDoor
/- What goes over all spans of a bag: sorted, lastEnd. -/
namespace Go.Proofs.YtionbmlicmibgaaGreatDoor
set_option linter.unusedVariables false
set_option linter.unusedSimpArgs false
open Go.RowKit

theorem same_int (a b : Int) : (Lit.int .i64 a).sameKey (.int .i64 b) = decide (a = b) := by
  by_cases h : a = b
  · subst h
    rw [WideAt.sameKey_self (isKeyI _)]
    simp
  · rw [Maps.sameKey_ne (fun e => h (by injection e))]
    simp [h]
/-- Those that are not to come. -/
def doneS (L : List Sp) (left : Lit → Bool) : List Sp := L.filter fun x => !left (.int .i64 x.i)
theorem doneS_step : ∀ {L : List Sp}, (L.Pairwise fun x y => x.i ≠ y.i) → ∀ {left : Lit → Bool} {x : Sp}, x ∈ L → left (.int .i64 x.i) = true → (x :: doneS L left).Perm (doneS L fun z => left z && !z.sameKey (.int .i64 x.i))
  | [], _, left, x, hx, _ => by simp at hx
  | y :: r, hid, left, x, hx, hl => by
    obtain ⟨h1, h2⟩ := List.pairwise_cons.1 hid
    unfold doneS
    by_cases hxy : y.i = x.i
    · have hxy' : x = y := by
        rcases List.mem_cons.1 hx with e | hx
        · exact e
        · exact absurd hxy (h1 x hx)
      subst hxy'
      rw [List.filter_cons_of_neg (by simp [hl]), List.filter_cons_of_pos (by simp [same_int])]
      have e : r.filter (fun p => !(left (.int .i64 p.i) && !(Lit.int .i64 p.i).sameKey (.int .i64 x.i))) = r.filter (fun p => !left (.int .i64 p.i)) := by
        apply List.filter_congr
        intro q hq
        have := h1 q hq
        have hne : ¬ q.i = x.i := fun e => this e.symm
        simp [same_int, hne]
      rw [e]
    · have hx' : x ∈ r := by
        rcases List.mem_cons.1 hx with e | hx
        · exact absurd (by rw [e]) hxy
        · exact hx
      have ih := doneS_step h2 hx' hl
      unfold doneS at ih
      by_cases hy : left (.int .i64 y.i) = true
      · rw [List.filter_cons_of_neg (by simp [hy]), List.filter_cons_of_neg (by simp [same_int, hy, hxy])]
        exact ih
      · rw [List.filter_cons_of_pos (by simp [hy]), List.filter_cons_of_pos (by simp [hy])]
        exact (List.Perm.swap y x _).trans (ih.cons y)
theorem doneS_all {L : List Sp} {left : Lit → Bool} (h : ∀ k, left k = false) : doneS L left = L := List.filter_eq_self.2 fun p _ => by rw [h]; rfl
theorem doneS_none {L : List Sp} {left : Lit → Bool} (h : ∀ x ∈ L, left (.int .i64 x.i) = true) : doneS L left = [] := List.filter_eq_nil_iff.2 fun p hp => by rw [h p hp]; simp
theorem keyI_inv {key : Value} {kl : Lit} (h : keyOf Tryz.prog 3 key = some kl) : ∃ x : Int, key = .int .i64 x := by
  obtain ⟨x, rfl, _⟩ := Maps.keyOf_int_inv Tryz.underlying3 h
  exact ⟨x, rfl⟩
theorem heldA_agg {v : Value} {y : DataW Value × List MemPlace} (h : heldA v = some y) : (∃ c, v = .agg c) ∧ y.1 = .held v := by
  cases v <;> simp [heldA] at h
  subst h
  exact ⟨⟨_, rfl⟩, rfl⟩
/-- What comes out of a range over a bag. -/
theorem BagIs.came {w : World} {b : Nat} {L : List Sp} {D : DataW Value} (h : BagIs w b L D) {k : Int} {c : Array Value} {kl : Lit} {y : DataW Value × List MemPlace}
    (hk : keyOf Tryz.prog 3 (.int .i64 k) = some kl) (hv : heldA (.agg c) = some y) (hat : ∀ zd, D.atKey kl zd = y.1) : ∃ x, x ∈ L ∧ k = x.i ∧ kl = .int .i64 x.i ∧ c = (spC x).toArray := by
  obtain ⟨k', e, hkl, hwf⟩ := Maps.keyOf_int_inv Tryz.underlying3 hk
  injection e with _ e
  subst e
  subst hkl
  have hh := Maps.has_true_of_atKey hat
  rw [h.keys] at hh
  obtain ⟨x, hx⟩ := Option.isSome_iff_exists.1 hh
  have e1 := h.vals _ x hx .nil
  rw [hat, (heldA_agg hv).2] at e1
  injection e1 with e1
  injection e1 with e1
  obtain ⟨h1, h2⟩ := fnd_mem hx
  exact ⟨x, h1, h2.symm, by rw [h2], e1⟩

/-- The greatest end. -/
def endP : List Sp → Int
  | [] => 0
  | x :: r => max x.e (endP r)
theorem endP_perm {L M : List Sp} (h : L.Perm M) : endP L = endP M := by
  induction h with
  | nil => rfl
  | cons x _ ih => unfold endP; rw [ih]
  | swap x y l => unfold endP; unfold endP; omega
  | trans _ _ ih1 ih2 => exact ih1.trans ih2
theorem endP_le {L : List Sp} (h : ∀ x ∈ L, x.e ≤ 1099511627776) : 0 ≤ endP L ∧ endP L ≤ 1099511627776 := by
  induction L with
  | nil => exact ⟨Int.le_refl _, by decide⟩
  | cons x r ih =>
    have := ih fun y hy => h y (List.mem_cons_of_mem _ hy)
    have := h x (List.mem_cons_self ..)
    unfold endP
    omega

theorem ranges_chgB {H : Type} {P : Program} {k : TypeId} {R : Value → Option (DataW H × List MemPlace)} {w w' : World} {b r n : Nat} {D : DataW H} {left : Lit → Bool} {cnt : Nat} {row : Option Nat} (h : w.ranges P k R b r n D left cnt) (hc : w.grownBy w' row) (hb : row ≠ some b) (hr : row ≠ some r) : w'.ranges P k R b r n D left cnt := by
  have h1 := h.owns.lt
  have h2 := h.lt
  obtain ⟨es, clock, since, seen, c0, hb', F, hs, hD, hr', rest⟩ := h
  exact ⟨es, clock, since, seen, c0, (hc.block b h1 (fun e => hb e.symm)).trans hb', F, hs, hD, (hc.block r h2 (fun e => hr e.symm)).trans hr', rest⟩

set_option maxRecDepth 200000 in
set_option maxHeartbeats 1000000 in
theorem lastEnd_any {w : World} {b : Nat} {L : List Sp} {D : DataW Value} (h : BagIs w b L D) (he : ∀ x ∈ L, 0 ≤ x.e ∧ x.e ≤ 1099511627776) :
    Calls Tryz.prog 199 #[.map (some b)] w fun e w' => e = .returned (.int .i64 (endP L)) ∧ Below w.heap.size w w' := by
  have H := hide h
  have hown := h.map
  have HE := hide he
  clear h he
  go_enter Tryz.func199, Tryz.ntmps199
  go_wp2_with (first | (at_range; refine wpList_range_own _ rfl _ 230 rfl 3 30 intK Tryz.underlying230 _ b L.length D rfl hown ?_; intro w0 hrg0 hg0 hs0) | go_in)
  go_frame
  have hB0 : Below w.heap.size w w0 := ⟨hg0.os, hg0.tape, hg0.output, hg0.size, fun k hk => hg0.block k hk (by simp)⟩
  have hd0 : doneS L (Maps.has D) = [] := doneS_none fun p hp => by
    rw [H.out.keys, fnd_of H.out.ids hp]
    rfl
  have HRG := hide hrg0
  have HB0 := hide hB0
  have HD0 := hide hd0
  clear hrg0 hg0 hB0 hd0 hs0 hown
  go_loopw [3] (fun n wr => ∃ left cnt, wr.ranges Tryz.prog 3 heldA b w.heap.size L.length D left cnt ∧ n = .int .i64 (endP (doneS L left)) ∧ Below w.heap.size w wr) (fun _ wr => wr.rangeLeft b w.heap.size)
  case atStart => exact ⟨_, _, HRG.out, by rw [HD0.out]; rfl, HB0.out⟩
  case round =>
    obtain ⟨left, cnt, hrg, rfl, hB⟩ := hrel
    obtain ⟨hle0, hle⟩ := endP_le (L := doneS L left) fun x hx => (HE.out x (List.mem_filter.1 hx).1).2
    obtain ⟨m, hm⟩ : ∃ m, endP (doneS L left) = m := ⟨_, rfl⟩
    rw [hm] at hle hle0
    rw [hm]
    have HM := hide hm
    have HB := hide hB
    have HRG2 := hide hrg
    clear hB hm
    go_wp2_with (first | (at_next; refine wpList_next_ranges _ rfl _ rfl 3 intK heldA (Value.int .i64) Value.agg (fun key kl h => keyI_inv h) (fun v y h => (heldA_agg h).1) b w.heap.size L.length D left cnt rfl hrg ?_ ?_) | go_in)
    · intro hc0 hl0
      have hda := doneS_all (L := L) hl0
      rw [hda] at HM
      clear hrg hda
      go_wp2
      go_ret
      exact ⟨by rw [HM.out]; rfl, HB.out⟩
    · intro k c kl y1 ps w1 cnt1 hkey hlk hv hat hrg1 hlt hg1 hs1 hen
      obtain ⟨x, hx, rfl, rfl, rfl⟩ := H.out.came (y := (y1, ps)) hkey hv hat
      have hst := endP_perm (doneS_step H.out.ids hx hlk)
      have hB1 := HB.out.grown hg1 HB.out.size (fun k hk => by injection hk with hk; omega)
      obtain ⟨hx0, hx1⟩ := HE.out x hx
      have HS : Hid (endP (doneS L fun z => left z && !z.sameKey (.int .i64 x.i)) = max x.e m) := by
        rw [← hst]
        unfold endP
        rw [HM.out]
        exact rfl
      have HR1 := hide hrg1
      have HB1 := hide hB1
      have HLT := hide hlt
      obtain ⟨t, i, p, s, e, nm⟩ := x
      unfold spC at *
      dsimp only at *
      clear hst hrg1 hB1 hrg hkey hv hat hlk hg1 hs1 hlt hx
      by_cases hmx : m < e
      all_goals
        go_wp2
        go_roundw
        case rel => exact ⟨_, _, ranges_chgB HR1.out (World.grownBy_alloc w1 _ none) (by simp) (by simp), by rw [HS.out]; first | rfl | (congr 1; omega), HB1.out.alloc HB1.out.size _⟩
        case measure => rw [(ranges_chgB HR1.out (World.grownBy_alloc w1 _ none) (by simp) (by simp)).left_eq, HRG2.out.left_eq]; exact HLT.out

end Go.Proofs.YtionbmlicmibgaaGreatDoor
/- What fromTop gathers: roots, orphans, and what stands beneath whom. -/
namespace Go.Proofs.YtionbmlicmibgaaGreatDoor
set_option linter.unusedVariables false
set_option linter.unusedSimpArgs false
open Go.RowKit

theorem BagIs.chg {w w' : World} {b : Nat} {L : List Sp} {D : DataW Value} {T : Nat → Prop} (h : BagIs w b L D) (hc : Chg w w' T) (hb : ¬ T b) : BagIs w' b L D := by
  have hlt := h.map.lt
  obtain ⟨es, clock, h1, rest⟩ := h.map
  exact ⟨⟨es, clock, (hc.block b hlt hb).trans h1, rest⟩, h.size, h.keys, h.vals, h.ids⟩

/-- What stands while fromTop gathers: w1 is the world behind the sort. -/
structure TopInv (w1 w : World) (bU : Nat) (vR vO : Value) (R O : List Br) (U : Int → List Sp) (V : Int → Value) (D : DataW Value) : Prop where
  chg : Chg w1 w fun k => k = bU
  r : OwnB w1.heap.size w vR R
  o : OwnB w1.heap.size w vO O
  u : UndIs w w1.heap.size bU U V D
  bu : bU < w1.heap.size
  ro : ∀ i, vR.ownBlock = some i → vO.ownBlock ≠ some i
  rU : ∀ i, vR.ownBlock = some i → UndOff bU V D i
  oU : ∀ i, vO.ownBlock = some i → UndOff bU V D i

theorem chg_grown {w1 w w' : World} {T : Nat → Prop} {row : Option Nat} (h : Chg w1 w T) (hg : w.grownBy w' row) (hr : ∀ i, row = some i → T i ∨ w1.heap.size ≤ i) : Chg w1 w' T :=
  h.trans (Chg.of_grown hg (fun k => row = some k) fun k e => .inl e) fun k e => hr k e
theorem TopInv.alloc {w1 w : World} {bU : Nat} {vR vO : Value} {R O : List Br} {U : Int → List Sp} {V : Int → Value} {D : DataW Value} (h : TopInv w1 w bU vR vO R O U V D) (o : Obj) : TopInv w1 (w.alloc o) bU vR vO R O U V D :=
  ⟨h.chg.alloc o, World.ownsRow.alloc h.r o, World.ownsRow.alloc h.o o, h.u.grown (World.grownBy_alloc w o none) (fun i e => by cases e), h.bu, h.ro, h.rU, h.oU⟩
theorem TopInv.setR {w1 w w' : World} {bU : Nat} {vR vO vR' : Value} {R R' O : List Br} {U : Int → List Sp} {V : Int → Value} {D : DataW Value} (h : TopInv w1 w bU vR vO R O U V D) (ho : OwnB w1.heap.size w' vR' R') (he : Ext2 w vR w' vR') : TopInv w1 w' bU vR' vO R' O U V D := by
  have hu := h.u.ext he h.rU
  refine ⟨chg_grown h.chg he.1 fun i hi => .inr (h.r.lt i hi).1, ho, h.o.grown he.1 ?_, hu.1, h.bu, fun i hi => ?_, hu.2, h.oU⟩
  · rcases hvo : vO.ownBlock with _ | j
    · exact .inl rfl
    · exact .inr fun e => h.ro j e.symm hvo
  · rcases he.2 with e | ⟨j, hj, e⟩
    · rw [e] at hi
      exact h.ro i hi
    · rw [e] at hi
      injection hi with hi
      subst hi
      intro e2
      have := (h.o.lt _ e2).2
      omega
end Go.Proofs.YtionbmlicmibgaaGreatDoor
/- fromTop: the branches of a bag. -/
namespace Go.Proofs.YtionbmlicmibgaaGreatDoor
set_option linter.unusedVariables false
set_option linter.unusedSimpArgs false
open Go.RowKit
attribute [local go_sem ↓] Go.wp_at_zero Go.wp_at_succ

theorem spans_wf {tr : Int} {L : List Sp} (h : FoOk tr L) {x : Sp} (hx : x ∈ L) : (Lit.int .i64 x.i).wf = true ∧ (Lit.int .i64 x.p).wf = true := by
  obtain ⟨t1, t2, i1, i2, p1, p2, _⟩ := (Sp.ok_iff x).1 (h.ok x hx).1
  exact ⟨WalkArith.wf_i64 (by omega), WalkArith.wf_i64 (by omega)⟩

end Go.Proofs.YtionbmlicmibgaaGreatDoor
/- A forest that New did not make: nil, or a plain one. -/
namespace Go.Proofs.YtionbmlicmibgaaGreatDoor
set_option linter.unusedVariables false
set_option linter.unusedSimpArgs false
open Go.RowKit

/-- Counts as a value. -/
def cnV (c : Cn) : Value := .agg #[.int .i64 (c.add : Nat), .int .i64 (c.same : Nat), .int .i64 (c.other : Nat), .int .i64 (c.cyc : Nat), .int .i64 (c.full : Nat)]
/-- A forest that New did not make. -/
def NoF (w : World) (v : Value) : Prop := v = .pointer none ∨ ∃ g, v = .pointer (some ⟨g, 0, none⟩) ∧ w.cell? ⟨g, 0, none⟩ = some (.map none)
theorem NoF.below {w w' : World} {v : Value} (h : NoF w v) (hb : Below w.heap.size w w') : NoF w' v := by
  rcases h with h | ⟨g, h, hc⟩
  · exact .inl h
  · exact .inr ⟨g, h, (hb.cell (lt_of_cell hc)).trans hc⟩
end Go.Proofs.YtionbmlicmibgaaGreatDoor
/- New. -/
namespace Go.Proofs.YtionbmlicmibgaaGreatDoor
set_option linter.unusedVariables false
set_option linter.unusedSimpArgs false
open Go.RowKit

theorem run_makeBag (w : World) : (Instr.makeMap 230 none).run Tryz.prog w = .ok (.map (some w.heap.size)) (w.alloc (.map #[] 0)) := by
  kernel_rfl

set_option maxRecDepth 200000 in
set_option maxHeartbeats 1000000 in
theorem new_any {w : World} {tr : Int} (h1 : 1 ≤ tr) (h2 : tr ≤ 1099511627776) : Calls Tryz.prog 212 #[.int .i64 tr] w fun e w' => e = .returned (.pointer (some ⟨w.heap.size + 1, 0, none⟩)) ∧ FoIs w' (w.heap.size + 1) w.heap.size tr [] ∧ Below w.heap.size w w' := by
  have hmk := fun q => run_makeBag (w.drewN q)
  have hmk0 := run_makeBag w
  go_enter Tryz.func212, Tryz.ntmps212
  go_wp2
  go_ret
  have hs : (w.alloc (.map #[] 0)).heap.size = w.heap.size + 1 := by simp
  have b1 := (Below.refl w.heap.size w).alloc (Nat.le_refl _) (.map #[] 0)
  refine ⟨rfl, ⟨?_, ?_, by omega, ⟨_, (bag_new w).grown (World.grownBy_alloc _ _ none) (by simp)⟩, ⟨List.Pairwise.nil, noRing_nil, fun x hx => by simp at hx, by simp⟩⟩, b1.alloc b1.size _⟩
  · rw [← hs]
    exact cell_of_row _ _ 0 _ 232 (0, 0) (heap_alloc_new (w.alloc (.map #[] 0)) _)
  · rw [← hs]
    exact cell_of_row _ _ 1 _ 232 (0, 0) (heap_alloc_new (w.alloc (.map #[] 0)) _)
end Go.Proofs.YtionbmlicmibgaaGreatDoor
