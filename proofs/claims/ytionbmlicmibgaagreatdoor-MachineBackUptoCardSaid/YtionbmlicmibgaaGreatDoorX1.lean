import Derived.Maps.OwnSet
import Derived.Maps.RangeWalk
import Derived.Maps.Ext
import Derived.Test.YtionbmlicmibgaaGreatDoorS4
import Derived.Test.YtionbmlicmibgaaGreatDoorS9
namespace Go.Proofs.YtionbmlicmibgaaGreatDoor
set_option linter.unusedVariables false
set_option linter.unusedSimpArgs false
structure Rp where
  er : Int
  rs : Int
  gn : Int
  ad : Int
  sa : Int
  ot : Int
  cy : Int
  fu : Int
deriving DecidableEq
structure St where
  s : Int
  q : Int
  a : Int
  r : Rp
deriving DecidableEq
def rp0 : Rp := ⟨0, 0, 0, 0, 0, 0, 0, 0⟩
def st0 : St := ⟨0, 0, 0, rp0⟩
def n40 (n : Int) : Bool := decide (0 ≤ n) && decide (n ≤ 1099511627776)
theorem n40_iff {n : Int} : n40 n = true ↔ 0 ≤ n ∧ n ≤ 1099511627776 := by unfold n40; simp
def Rp.nums (r : Rp) : List Int := [r.er, r.rs, r.gn, r.ad, r.sa, r.ot, r.cy, r.fu]
def St.nums (x : St) : List Int := [x.s, x.q, x.a, x.r.er, x.r.rs, x.r.gn, x.r.ad, x.r.sa, x.r.ot, x.r.cy, x.r.fu]
def Rp.ok (r : Rp) : Bool := r.nums.all n40
def St.tell (x : St) : Bool := x.nums.all n40
theorem St.nums_eq (x : St) : x.nums = [x.s, x.q, x.a] ++ x.r.nums := rfl
theorem St.tell_eq (x : St) : x.tell = (n40 x.s && n40 x.q && n40 x.a && x.r.ok) := by
  unfold St.tell Rp.ok
  rw [St.nums_eq, List.all_append]
  simp [Bool.and_assoc]
def c40 (n : Int) : Bool := decide (1 ≤ n) && decide (n ≤ 1099511627776)
theorem c40_iff {n : Int} : c40 n = true ↔ 1 ≤ n ∧ n ≤ 1099511627776 := by unfold c40; simp
def St.ok (x : St) : Bool := c40 x.s && c40 x.a && x.tell
theorem St.ok_iff {x : St} : x.ok = true ↔ (1 ≤ x.s ∧ x.s ≤ 1099511627776) ∧ (0 ≤ x.q ∧ x.q ≤ 1099511627776) ∧ (1 ≤ x.a ∧ x.a ≤ 1099511627776) ∧ x.r.ok = true := by
  unfold St.ok
  rw [St.tell_eq]
  simp only [Bool.and_eq_true, c40_iff, n40_iff]
  constructor
  · rintro ⟨⟨h1, h2⟩, ⟨⟨h3, h4⟩, h5⟩, h6⟩
    exact ⟨h1, h4, h2, h6⟩
  · rintro ⟨h1, h2, h3, h4⟩
    exact ⟨⟨h1, h3⟩, ⟨⟨⟨by omega, h1.2⟩, h2⟩, by omega, h3.2⟩, h4⟩
def fndT (L : List St) (k : Int) : Option St := L.find? fun x => x.s == k
theorem fndT_mem {L : List St} {k : Int} {x : St} (h : fndT L k = some x) : x ∈ L ∧ x.s = k := by
  have h1 := List.find?_some h
  exact ⟨List.mem_of_find?_eq_some h, by simpa using h1⟩
theorem fndT_none {L : List St} {k : Int} : fndT L k = none ↔ ∀ x ∈ L, x.s ≠ k := by
  unfold fndT
  rw [List.find?_eq_none]
  simp
def RisesT (L : List St) : Prop := L.Pairwise fun x y => x.s < y.s
theorem RisesT.ids {L : List St} (h : RisesT L) : L.Pairwise fun x y => x.s ≠ y.s := List.Pairwise.imp (S := fun x y : St => x.s ≠ y.s) (fun {a b} (h : a.s < b.s) => by omega) (show L.Pairwise fun x y => x.s < y.s from h)
theorem fndT_of {L : List St} (h : L.Pairwise fun x y => x.s ≠ y.s) {x : St} (hx : x ∈ L) : fndT L x.s = some x := by
  induction L with
  | nil => simp at hx
  | cons y r ih =>
    rw [List.pairwise_cons] at h
    unfold fndT
    rw [List.find?_cons]
    rcases List.mem_cons.1 hx with rfl | hx
    · simp
    · have := h.1 x hx
      simp only [beq_eq_false_iff_ne.2 this]
      exact ih h.2 hx
def insT : List St → St → List St
  | [], x => [x]
  | y :: r, x => if x.s < y.s then x :: y :: r else if x.s = y.s then x :: r else y :: insT r x
theorem fndT_ins (L : List St) (x : St) (k : Int) : fndT (insT L x) k = if x.s = k then some x else fndT L k := by
  induction L with
  | nil =>
    unfold insT fndT
    by_cases h : x.s = k <;> simp [h]
  | cons y r ih =>
    unfold insT
    by_cases h1 : x.s < y.s
    · rw [if_pos h1]
      unfold fndT
      by_cases h : x.s = k <;> simp [List.find?_cons, h]
    · rw [if_neg h1]
      by_cases h2 : x.s = y.s
      · rw [if_pos h2]
        unfold fndT
        by_cases h : x.s = k
        · simp [List.find?_cons, h]
        · have : ¬ y.s = k := by omega
          simp [List.find?_cons, h, this]
      · rw [if_neg h2]
        unfold fndT at ih ⊢
        rw [List.find?_cons, List.find?_cons]
        by_cases h : y.s = k
        · have : ¬ x.s = k := by omega
          simp [h, this]
        · simp only [beq_eq_false_iff_ne.2 h]
          exact ih
theorem mem_insT {L : List St} {x y : St} (h : y ∈ insT L x) : y = x ∨ (y ∈ L ∧ y.s ≠ x.s) ∨ y ∈ L := by
  induction L with
  | nil =>
    unfold insT at h
    simp at h
    exact .inl h
  | cons z r ih =>
    unfold insT at h
    split at h
    · rcases List.mem_cons.1 h with h | h
      · exact .inl h
      · exact .inr (.inr h)
    · split at h
      · rcases List.mem_cons.1 h with h | h
        · exact .inl h
        · exact .inr (.inr (List.mem_cons_of_mem _ h))
      · rcases List.mem_cons.1 h with h | h
        · exact .inr (.inr (by rw [h]; exact List.mem_cons_self ..))
        · rcases ih h with h | ⟨h, _⟩ | h
          · exact .inl h
          · exact .inr (.inr (List.mem_cons_of_mem _ h))
          · exact .inr (.inr (List.mem_cons_of_mem _ h))
theorem mem_insT' {L : List St} {x y : St} (h : y ∈ insT L x) : y = x ∨ y ∈ L := by
  rcases mem_insT h with h | ⟨h, _⟩ | h
  · exact .inl h
  · exact .inr h
  · exact .inr h
theorem RisesT.ins {L : List St} (h : RisesT L) (x : St) : RisesT (insT L x) := by
  induction L with
  | nil => exact List.pairwise_singleton _ _
  | cons y r ih =>
    obtain ⟨h1, h2⟩ := List.pairwise_cons.1 h
    unfold insT
    split
    · rename_i hlt
      refine List.pairwise_cons.2 ⟨fun z hz => ?_, h⟩
      rcases List.mem_cons.1 hz with rfl | hz
      · exact hlt
      · have := h1 z hz; omega
    · split
      · rename_i heq
        exact List.pairwise_cons.2 ⟨fun z hz => by have := h1 z hz; omega, h2⟩
      · refine List.pairwise_cons.2 ⟨fun z hz => ?_, ih h2⟩
        rcases mem_insT' hz with rfl | hz
        · omega
        · exact h1 z hz
theorem length_insT {L : List St} (h : RisesT L) (x : St) : (insT L x).length = L.length + if (fndT L x.s).isSome then 0 else 1 := by
  induction L with
  | nil => rfl
  | cons y r ih =>
    obtain ⟨h1, h2⟩ := List.pairwise_cons.1 h
    unfold insT
    split
    · rename_i hlt
      have : fndT (y :: r) x.s = none := fndT_none.2 fun z hz => by
        rcases List.mem_cons.1 hz with rfl | hz
        · omega
        · have := h1 z hz; omega
      rw [this]
      rfl
    · split
      · rename_i heq
        have : fndT (y :: r) x.s = some y := by
          unfold fndT
          rw [List.find?_cons]
          simp [heq]
        rw [this]
        rfl
      · rename_i hne
        have : fndT (y :: r) x.s = fndT r x.s := by
          unfold fndT
          rw [List.find?_cons]
          have : ¬ y.s = x.s := fun e => hne e.symm
          simp only [beq_eq_false_iff_ne.2 this]
        rw [this, List.length_cons, ih h2, List.length_cons]
        omega
structure TbOk (L : List St) : Prop where
  rises : RisesT L
  len : L.length ≤ 8
  ok : ∀ x ∈ L, x.ok = true
theorem TbOk.nil : TbOk [] := ⟨List.Pairwise.nil, by simp, fun x h => by simp at h⟩
def openT (L : List St) (at_ : Int) : Int × List St :=
  if (fndT L at_).isSome || !c40 at_ then (1, L) else if 8 ≤ L.length then (7, L) else (0, insT L ⟨at_, 0, at_, rp0⟩)
def askT (L : List St) (s q : Int) : Rp × Bool × Int := match fndT L s with
  | none => (rp0, false, 80)
  | some x => if q < x.q ∨ q < 1 then (rp0, false, 81) else if q = x.q then (x.r, true, 0) else if x.q + 1 < q then (rp0, false, 82) else (rp0, false, 0)
def keepT (L : List St) (s q a : Int) (r : Rp) : Int × List St :=
  if (askT L s q).2.2 ≠ 0 then ((askT L s q).2.2, L) else if (askT L s q).2.1 then (81, L) else if (⟨s, q, a, r⟩ : St).ok then (0, insT L ⟨s, q, a, r⟩) else (1, L)
def expT (L : List St) (f : Int) : List St := L.filter fun x => f ≤ x.a
theorem rp0_ok : rp0.ok = true := by decide
theorem TbOk.ins {L : List St} (h : TbOk L) {x : St} (hx : x.ok = true) (hl : (fndT L x.s).isSome = true ∨ L.length < 8) : TbOk (insT L x) :=
  ⟨h.rises.ins x, by
    rw [length_insT h.rises]
    have := h.len
    split
    · omega
    · rename_i hn
      rcases hl with hl | hl
      · exact absurd hl hn
      · omega, fun y hy => by
    rcases mem_insT' hy with rfl | hy
    · exact hx
    · exact h.ok y hy⟩
theorem TbOk.open_ {L : List St} (h : TbOk L) (at_ : Int) : TbOk (openT L at_).2 := by
  unfold openT
  split
  · exact h
  · rename_i h1
    split
    · exact h
    · have h1' : c40 at_ = true := by
        cases hc : c40 at_
        · simp [hc] at h1
        · rfl
      have h2 := c40_iff.1 h1'
      exact h.ins (St.ok_iff.2 ⟨h2, by dsimp only; omega, h2, rp0_ok⟩) (.inr (by omega))
theorem askT_some {L : List St} {s q : Int} (h : (askT L s q).2.2 ≠ 80) : ∃ x, fndT L s = some x := by
  unfold askT at h
  cases hf : fndT L s with
  | none => rw [hf] at h; simp at h
  | some x => exact ⟨x, rfl⟩
theorem TbOk.keep {L : List St} (h : TbOk L) (s q a : Int) (r : Rp) : TbOk (keepT L s q a r).2 := by
  unfold keepT
  split
  · exact h
  · rename_i h0
    split
    · exact h
    · split
      · rename_i hx
        obtain ⟨x, hx'⟩ := askT_some (L := L) (s := s) (q := q) (by omega)
        exact h.ins hx (.inl (by dsimp only; rw [hx']; rfl))
      · exact h
theorem TbOk.exp {L : List St} (h : TbOk L) (f : Int) : TbOk (expT L f) :=
  ⟨h.rises.sublist List.filter_sublist, Nat.le_trans (List.length_filter_le _ _) h.len, fun x hx => h.ok x (List.mem_filter.1 hx).1⟩
theorem fndT_filter {L : List St} (h : L.Pairwise fun x y => x.s ≠ y.s) (p : St → Bool) (k : Int) : fndT (L.filter p) k = (fndT L k).filter p := by
  cases hf : fndT L k with
  | none =>
    rw [fndT_none] at hf
    exact fndT_none.2 fun x hx => hf x (List.mem_filter.1 hx).1
  | some x =>
    obtain ⟨hx, rfl⟩ := fndT_mem hf
    cases hp : p x
    · rw [Option.filter_some, hp]
      refine fndT_none.2 fun y hy e => ?_
      obtain ⟨hy1, hy2⟩ := List.mem_filter.1 hy
      have h1 := fndT_of h hy1
      rw [e, hf] at h1
      injection h1 with h1
      rw [h1, hy2] at hp
      cases hp
    · rw [Option.filter_some, hp]
      exact fndT_of (h.sublist List.filter_sublist) (List.mem_filter.2 ⟨hx, hp⟩)
end Go.Proofs.YtionbmlicmibgaaGreatDoor
namespace Go.Proofs.YtionbmlicmibgaaGreatDoor
set_option linter.unusedVariables false
set_option linter.unusedSimpArgs false
open Go.RowKit
def rpC (r : Rp) : List Value := [.int .i64 r.er, .int .i64 r.rs, .int .i64 r.gn, .int .i64 r.ad, .int .i64 r.sa, .int .i64 r.ot, .int .i64 r.cy, .int .i64 r.fu]
def stC (x : St) : List Value := [.int .i64 x.s, .int .i64 x.q, .int .i64 x.a, .int .i64 x.r.er, .int .i64 x.r.rs, .int .i64 x.r.gn, .int .i64 x.r.ad, .int .i64 x.r.sa, .int .i64 x.r.ot, .int .i64 x.r.cy, .int .i64 x.r.fu]
def rpV (r : Rp) : Value := .agg #[.int .i64 r.er, .int .i64 r.rs, .int .i64 r.gn, .int .i64 r.ad, .int .i64 r.sa, .int .i64 r.ot, .int .i64 r.cy, .int .i64 r.fu]
def stV (x : St) : Value := .agg #[.int .i64 x.s, .int .i64 x.q, .int .i64 x.a, .int .i64 x.r.er, .int .i64 x.r.rs, .int .i64 x.r.gn, .int .i64 x.r.ad, .int .i64 x.r.sa, .int .i64 x.r.ot, .int .i64 x.r.cy, .int .i64 x.r.fu]
theorem stC_length (x : St) : (stC x).length = 11 := rfl
theorem stC_one (x : St) : ∀ v ∈ stC x, v.oneCell' = true := by
  intro v hv
  simp only [stC, List.mem_cons, List.not_mem_nil, or_false] at hv
  rcases hv with rfl | rfl | rfl | rfl | rfl | rfl | rfl | rfl | rfl | rfl | rfl <;> rfl
theorem zeroSt (w : World) : (zeroValue 84).run Tryz.prog w = .ok (stV st0) w := by kernel_rfl
structure RdT (D : DataW Value) (L : List St) : Prop where
  size : Maps.size D = L.length
  keys : ∀ k, Maps.has D (.int .i64 k) = (fndT L k).isSome
  vals : ∀ k x, fndT L k = some x → ∀ z, D.atKey (.int .i64 k) z = .held (stV x)
  rises : RisesT L
structure TmIs (w : World) (b : Nat) (L : List St) (D : DataW Value) : Prop where
  map : w.ownsMap Tryz.prog 3 heldA b L.length D
  rd : RdT D L
theorem TmIs.lt {w : World} {b : Nat} {L : List St} {D : DataW Value} (h : TmIs w b L D) : b < w.heap.size := h.map.lt
theorem TmIs.chg {w w' : World} {S : Nat → Prop} {b : Nat} {L : List St} {D : DataW Value} (h : TmIs w b L D) (hc : Chg w w' S) (hn : ¬ S b) : TmIs w' b L D := by
  have hlt := h.map.lt
  obtain ⟨es, clock, h1, rest⟩ := h.map
  exact ⟨⟨es, clock, (hc.block b hlt hn).trans h1, rest⟩, h.rd⟩
theorem TmIs.drewN {w : World} {b : Nat} {L : List St} {D : DataW Value} (h : TmIs w b L D) (q : Nat) : TmIs (w.drewN q) b L D := ⟨h.map, h.rd⟩
theorem TmIs.grown {w w' : World} {b : Nat} {L : List St} {D : DataW Value} {row : Option Nat} (h : TmIs w b L D) (hg : w.grownBy w' row) (hne : row ≠ some b) : TmIs w' b L D :=
  ⟨h.map.kept hg fun e => hne e.symm, h.rd⟩
theorem TmIs.look {w : World} {b : Nat} {L : List St} {D : DataW Value} (h : TmIs w b L D) {k : Int} (hk : (Lit.int .i64 k).wf = true) (q : Nat) :
    (Instr.lookup 171 (.map (some b)) (.int .i64 k) true).run Tryz.prog (w.drewN q) = .ok (.tuple #[stV ((fndT L k).getD st0), .bool (fndT L k).isSome]) (w.drewN q) ∧ (Instr.lookup 171 (.map (some b)) (.int .i64 k) false).run Tryz.prog (w.drewN q) = .ok (stV ((fndT L k).getD st0)) (w.drewN q) := by
  have hmap : (w.drewN q).ownsMap Tryz.prog 3 heldA b L.length D := h.map
  obtain ⟨v, ps, hrun, hv⟩ := hmap.look_ok intK Tryz.underlying171 (zeroSt (w.drewN q)) (zd := .held (stV st0)) (zp := []) rfl (keyI hk)
  obtain ⟨v2, ps2, hrun2, hv2⟩ := hmap.lookup intK Tryz.underlying171 (zeroSt (w.drewN q)) (zd := .held (stV st0)) (zp := []) rfl (keyI hk)
  cases hf : fndT L k with
  | none =>
    have hh : Maps.has D (.int .i64 k) = false := by rw [h.rd.keys, hf]; rfl
    rw [Maps.atKey_of_not_has hh] at hv hv2
    obtain rfl := heldA_inv hv
    obtain rfl := heldA_inv hv2
    rw [hh] at hrun
    exact ⟨hrun, hrun2⟩
  | some x =>
    have hh : Maps.has D (.int .i64 k) = true := by rw [h.rd.keys, hf]; rfl
    rw [h.rd.vals k x hf] at hv hv2
    obtain rfl := heldA_inv hv
    obtain rfl := heldA_inv hv2
    rw [hh] at hrun
    exact ⟨hrun, hrun2⟩
set_option maxRecDepth 20000 in
theorem TmIs.store {w : World} {b : Nat} {L : List St} {D : DataW Value} (h : TmIs w b L D) {x : St} (hk : (Lit.int .i64 x.s).wf = true) (hL : L.length < maxLen) :
    ∃ w' D', (Instr.mapUpdate 171 (.map (some b)) (.int .i64 x.s) (stV x)).run Tryz.prog w = .ok () w' ∧ w.grownBy w' (some b) ∧ TmIs w' b (insT L x) D' := by
  obtain ⟨w', hrun, hm', hg⟩ := h.map.update intK Tryz.underlying171 hL (keyI hk) (d := .held (stV x)) (ps := []) (val := stV x) rfl
  have htidy := h.map.tidy intK
  have hsz : Maps.size (D.put (.int .i64 x.s) (.held (stV x))) = (insT L x).length := by
    rw [Maps.size_put htidy, h.rd.keys, length_insT h.rd.rises, h.rd.size]
    cases (fndT L x.s).isSome <;> simp
  refine ⟨w', _, hrun, hg, ⟨by rw [← hsz]; exact bmap_tight hm', ⟨hsz, fun k => ?_, fun k y hy => ?_, h.rd.rises.ins x⟩⟩⟩
  · rw [fndT_ins]
    by_cases e : x.s = k
    · subst e
      rw [if_pos rfl, Maps.has_put_same h.map.isMap (isKeyI _)]
      rfl
    · rw [if_neg e, Maps.has_put_other (fun h => e (by injection h with _ h; exact h.symm)), h.rd.keys]
  · rw [fndT_ins] at hy
    by_cases e : x.s = k
    · subst e
      rw [if_pos rfl] at hy
      simp at hy
      subst hy
      intro z
      rw [Maps.atKey_put_same h.map.isMap (isKeyI _)]
    · rw [if_neg e] at hy
      intro z
      rw [Maps.atKey_put_other (fun h => e (by injection h with _ h; exact h.symm))]
      exact h.rd.vals k y hy z
theorem tm_new (w : World) : TmIs (w.alloc (.map #[] 0)) w.heap.size [] (.map []) :=
  ⟨World.ownsMap_made w _ _ _, ⟨rfl, fun k => rfl, fun k x h => by simp [fndT] at h, List.Pairwise.nil⟩⟩
structure TbIs (w : World) (g b : Nat) (L : List St) : Prop where
  c0 : w.cell? ⟨g, 0, none⟩ = some (.map (some b))
  ne : g ≠ b
  map : ∃ D, TmIs w b L D
  ok : TbOk L
theorem TbIs.gl {w : World} {g b : Nat} {L : List St} (h : TbIs w g b L) : g < w.heap.size := lt_of_cell h.c0
theorem TbIs.bl {w : World} {g b : Nat} {L : List St} (h : TbIs w g b L) : b < w.heap.size := by obtain ⟨D, hD⟩ := h.map; exact hD.lt
theorem TbIs.chg {w w' : World} {S : Nat → Prop} {g b : Nat} {L : List St} (h : TbIs w g b L) (hc : Chg w w' S) (h1 : ¬ S g) (h2 : ¬ S b) : TbIs w' g b L :=
  ⟨hc.cell h.c0 h1, h.ne, by obtain ⟨D, hD⟩ := h.map; exact ⟨D, hD.chg hc h2⟩, h.ok⟩
theorem TbIs.below {w w' : World} {g b : Nat} {L : List St} (h : TbIs w g b L) (hb : Below w.heap.size w w') : TbIs w' g b L := h.chg (Chg.of_below hb fun _ => False) (fun e => e) (fun e => e)
theorem TbIs.alloc {w : World} {g b : Nat} {L : List St} (h : TbIs w g b L) (o : Obj) : TbIs (w.alloc o) g b L := h.below ((Below.refl _ _).alloc (Nat.le_refl _) o)
theorem TbIs.with_ {w w' : World} {g b : Nat} {L L' : List St} {D : DataW Value} (h : TbIs w g b L) (hc : Chg w w' (fun k => k = b)) (hm : TmIs w' b L' D) (ho : TbOk L') : TbIs w' g b L' :=
  ⟨hc.cell h.c0 h.ne, h.ne, ⟨D, hm⟩, ho⟩
theorem run_some_mapT (b : Nat) (w : World) : (binOp .neq 171 (.map (some b)) (.map none)).run Tryz.prog w = .ok (.bool true) w := by
  kernel_rfl
theorem wf40 {n : Int} (h0 : -9223372036854775808 ≤ n) (h1 : n ≤ 9223372036854775807) : (Lit.int .i64 n).wf = true := by
  have h1' : IntKind.i64.min = -9223372036854775808 := rfl
  have h2 : IntKind.i64.max = 9223372036854775807 := rfl
  simp only [Lit.wf, Bool.and_eq_true, decide_eq_true_eq]
  omega
end Go.Proofs.YtionbmlicmibgaaGreatDoor
namespace Go.Proofs.YtionbmlicmibgaaGreatDoor
set_option linter.unusedVariables false
set_option linter.unusedSimpArgs false
open Go.RowKit
set_option maxRecDepth 200000 in
set_option maxHeartbeats 1100000 in
theorem ses_made_any {w : World} {g b : Nat} (c0 : w.cell? ⟨g, 0, none⟩ = some (.map (some b))) : Calls Tryz.prog 132 #[.pointer (some ⟨g, 0, none⟩)] w fun e w' => e = .returned (.bool true) ∧ Chg w w' (fun _ => False) := by
  have hneq := run_some_mapT b
  go_enter Tryz.func132, Tryz.ntmps132
  go_wp2
  go_ret
  exact ⟨rfl, Chg.refl _ _⟩
theorem c40_no1 {n : Int} (h : ¬ 1 ≤ n) : c40 n = false := by unfold c40; simp [h]
theorem c40_no2 {n : Int} (h : ¬ n ≤ 1099511627776) : c40 n = false := by unfold c40; simp [h]
theorem c40_yes {n : Int} (h1 : 1 ≤ n) (h2 : n ≤ 1099511627776) : c40 n = true := c40_iff.2 ⟨h1, h2⟩
set_option maxRecDepth 200000 in
set_option maxHeartbeats 1100000 in
theorem ses_count_any (w : World) (n : Int) : Calls Tryz.prog 179 #[.int .i64 n] w fun e w' => e = .returned (.bool (c40 n)) ∧ w = w' := by
  by_cases h1 : 1 ≤ n
  · by_cases h2 : n ≤ 1099511627776
    · have HC := hide (c40_yes h1 h2)
      go_enter Tryz.func179, Tryz.ntmps179
      go_wp2
      go_ret
      exact ⟨by rw [HC.out]; rfl, rfl⟩
    · have HC := hide (c40_no2 h2)
      go_enter Tryz.func179, Tryz.ntmps179
      go_wp2
      go_ret
      exact ⟨by rw [HC.out]; rfl, rfl⟩
  · have HC := hide (c40_no1 h1)
    go_enter Tryz.func179, Tryz.ntmps179
    go_wp2
    go_ret
    exact ⟨by rw [HC.out]; rfl, rfl⟩
def NumsAt (w : World) (g : Nat) (l : List Int) : Prop := ∀ (i : Nat) n, l[i]? = some n → w.cell? ⟨g, i, none⟩ = some (.int .i64 n)
def NumsPost (w0 w : World) (l : List Int) (e : Ending) (w' : World) : Prop := ∃ g, e = .returned (.slice (some ⟨g, 0, none⟩) 11 11) ∧ NumsAt w' g l ∧ w0.heap.size ≤ g ∧ Below w0.heap.size w w'
theorem nums_new (W : World) (l : List Int) {g : Nat} (hg : g = W.heap.size) : NumsAt (W.alloc (.cells (l.map (Value.int .i64)).toArray 3)) g l := by
  intro i n hi
  subst hg
  rw [World.cell?_alloc_new]
  simp [hi]
set_option maxRecDepth 200000 in
set_option maxHeartbeats 2000000 in
theorem ses_numbers_any (w : World) (x : St) : Calls Tryz.prog 190 #[stV x] w (NumsPost w w x.nums) := by
  obtain ⟨s, q, a, ⟨e1, e2, e3, e4, e5, e6, e7, e8⟩⟩ := x
  unfold stV
  dsimp only
  go_enter Tryz.func190, Tryz.ntmps190
  go_wp2
  go_region
  all_goals
    go_wp2
    go_ret
    refine ⟨_, rfl, nums_new _ [s, q, a, e1, e2, e3, e4, e5, e6, e7, e8] (by simp), by omega, ?_⟩
    exact (((((Below.refl _ _).alloc (Nat.le_refl _) _).alloc (by simp) _).alloc (by simp; omega) _).alloc (by simp; omega) _).trans (bdrew _ 1)
theorem ses_all_drop {l : List Int} {k : Nat} {n : Int} (h : l[k]? = some n) : (l.drop k).all n40 = (n40 n && (l.drop (k + 1)).all n40) := by
  obtain ⟨hk, rfl⟩ := List.getElem?_eq_some_iff.1 h
  rw [List.drop_eq_getElem_cons hk, List.all_cons]
theorem n40_no1 {n : Int} (h : n < 0) : n40 n = false := by
  cases hb : n40 n
  · rfl
  · have := n40_iff.1 hb; omega
theorem n40_no2 {n : Int} (h : 1099511627776 < n) : n40 n = false := by
  cases hb : n40 n
  · rfl
  · have := n40_iff.1 hb; omega
set_option maxRecDepth 200000 in
set_option maxHeartbeats 2000000 in
theorem ses_tell_any (w : World) (x : St) : Calls Tryz.prog 188 #[stV x] w fun e w' => e = .returned (.bool x.tell) ∧ Below w.heap.size w w' := by
  have HN := fun w => ses_numbers_any w x
  obtain ⟨l, hl⟩ : ∃ l, x.nums = l := ⟨_, rfl⟩
  have hll : l.length = 11 := by rw [← hl]; rfl
  have HT : Hid (x.tell = l.all n40) := hide (by rw [← hl]; rfl)
  rw [hl] at HN
  obtain ⟨t, ht⟩ : ∃ t, x.tell = t := ⟨_, rfl⟩
  rw [ht] at HT ⊢
  clear hl ht
  obtain ⟨s, q, a, ⟨e1, e2, e3, e4, e5, e6, e7, e8⟩⟩ := x
  unfold stV at *
  dsimp only at *
  have HL := hide hll
  clear hll
  go_enter Tryz.func188, Tryz.ntmps188
  go_wp2_with fail
  refine (HN _).mono ?_
  rintro e w1 ⟨g, rfl, hn, hg, hb⟩
  have HG := hide (((Below.refl w.heap.size w).alloc (Nat.le_refl _) _).trans (hb.mono (by simp)))
  clear hb hg
  go_wp2
  go_loop [8] (fun i => ∃ k : Nat, k ≤ 11 ∧ i = .int .i64 k ∧ Hid (l.all n40 = (l.drop k).all n40)) (fun i => 11 - (intOf i).toNat)
  case atStart => exact ⟨0, by omega, rfl, hide rfl⟩
  case round =>
    obtain ⟨k, hk, rfl, HK⟩ := hrel
    by_cases hlt : k < 11
    · have hlt' : k < l.length := by have := HL.out; omega
      obtain ⟨n, hn'⟩ : ∃ n, l[k]? = some n := ⟨_, List.getElem?_eq_getElem hlt'⟩
      have hc := hn k n hn'
      have HD := hide (ses_all_drop hn')
      by_cases h0 : n < 0
      · have HF : Hid (t = false) := hide (by rw [HT.out, HK.out, HD.out, n40_no1 h0]; rfl)
        clear hn' hlt'
        go_wp2
        go_ret
        exact ⟨by rw [HF.out]; rfl, HG.out⟩
      · by_cases h1 : n > 1099511627776
        · have HF : Hid (t = false) := hide (by rw [HT.out, HK.out, HD.out, n40_no2 h1]; rfl)
          clear hn' hlt'
          go_wp2
          go_ret
          exact ⟨by rw [HF.out]; rfl, HG.out⟩
        · have HY : Hid (l.all n40 = (l.drop (k + 1)).all n40) := hide (by rw [HK.out, HD.out, n40_iff.2 ⟨by omega, by omega⟩]; rfl)
          clear hn' hlt'
          go_wp2
          go_round
          case rel => exact ⟨k + 1, by omega, by go_num, HY⟩
          case measure => simp [intOf]; omega
    · have HF : Hid (t = true) := hide (by rw [HT.out, HK.out, List.drop_of_length_le (by have := HL.out; omega)]; rfl)
      go_wp2
      go_ret
      exact ⟨by rw [HF.out]; rfl, HG.out⟩
set_option maxRecDepth 200000 in
set_option maxHeartbeats 2000000 in
theorem ses_stand_any (w : World) (x : St) : Calls Tryz.prog 163 #[stV x] w fun e w' => e = .returned (.bool x.ok) ∧ Below w.heap.size w w' := by
  have HT := fun w => ses_tell_any w x
  have hok : x.ok = (c40 x.s && c40 x.a && x.tell) := rfl
  obtain ⟨t, ht⟩ : ∃ t, x.tell = t := ⟨_, rfl⟩
  obtain ⟨u, hu⟩ : ∃ u, x.ok = u := ⟨_, rfl⟩
  rw [ht] at HT hok
  rw [hu] at hok ⊢
  clear ht hu
  obtain ⟨s, q, a, ⟨e1, e2, e3, e4, e5, e6, e7, e8⟩⟩ := x
  unfold stV at *
  dsimp only at *
  have HC1 := fun w => ses_count_any w s
  have HC2 := fun w => ses_count_any w a
  cases h1 : c40 s
  · rw [h1] at HC1 hok
    have HO : Hid (u = false) := hide (by rw [hok]; rfl)
    clear hok h1
    go_enter Tryz.func163, Tryz.ntmps163
    go_wp2_with fail
    refine (HC1 _).mono ?_
    rintro e w1 ⟨rfl, rfl⟩
    go_wp2
    go_ret
    exact ⟨by rw [HO.out]; rfl, (Below.refl _ _).alloc (Nat.le_refl _) _⟩
  · cases h2 : c40 a
    · rw [h1] at HC1 hok
      rw [h2] at HC2 hok
      have HO : Hid (u = false) := hide (by rw [hok]; rfl)
      clear hok h1 h2
      go_enter Tryz.func163, Tryz.ntmps163
      go_wp2_with fail
      refine (HC1 _).mono ?_
      rintro e w1 ⟨rfl, rfl⟩
      go_wp2_with fail
      refine (HC2 _).mono ?_
      rintro e w1 ⟨rfl, rfl⟩
      go_wp2
      go_ret
      exact ⟨by rw [HO.out]; rfl, (Below.refl _ _).alloc (Nat.le_refl _) _⟩
    · rw [h1] at HC1 hok
      rw [h2] at HC2 hok
      have HO : Hid (u = t) := hide (by rw [hok]; rfl)
      clear hok h1 h2
      go_enter Tryz.func163, Tryz.ntmps163
      go_wp2_with fail
      refine (HC1 _).mono ?_
      rintro e w1 ⟨rfl, rfl⟩
      go_wp2_with fail
      refine (HC2 _).mono ?_
      rintro e w1 ⟨rfl, rfl⟩
      go_wp2_with fail
      refine (HT _).mono ?_
      rintro e w1 ⟨rfl, hb⟩
      have HB := hide (((Below.refl w.heap.size w).alloc (Nat.le_refl _) _).trans (hb.mono (by simp)))
      clear hb
      go_wp2
      go_ret
      exact ⟨by rw [HO.out]; rfl, HB.out⟩
theorem run_makeTm (w : World) : (Instr.makeMap 171 none).run Tryz.prog w = .ok (.map (some w.heap.size)) (w.alloc (.map #[] 0)) := by
  kernel_rfl
set_option maxRecDepth 200000 in
set_option maxHeartbeats 2000000 in
theorem ses_new_any (w : World) : Calls Tryz.prog 75 #[] w fun e w' => e = .returned (.pointer (some ⟨w.heap.size + 1, 0, none⟩)) ∧ TbIs w' (w.heap.size + 1) w.heap.size [] ∧ Below w.heap.size w w' := by
  have hmk0 := run_makeTm w
  go_enter Tryz.func75, Tryz.ntmps75
  go_wp2
  go_ret
  have hs : (w.alloc (.map #[] 0)).heap.size = w.heap.size + 1 := by simp
  have b1 := (Below.refl w.heap.size w).alloc (Nat.le_refl _) (.map #[] 0)
  refine ⟨rfl, ⟨?_, by omega, ⟨_, (tm_new w).grown (World.grownBy_alloc _ _ none) (by simp)⟩, TbOk.nil⟩, b1.alloc b1.size _⟩
  rw [← hs]
  exact cell_of_row _ _ 0 _ 173 (0, 0) (heap_alloc_new (w.alloc (.map #[] 0)) _)
end Go.Proofs.YtionbmlicmibgaaGreatDoor
namespace Go.Proofs.YtionbmlicmibgaaGreatDoor
set_option linter.unusedVariables false
set_option linter.unusedSimpArgs false
open Go.RowKit
theorem Chg.nope {a b : World} (h : Chg a b fun _ => False) (S : Nat → Prop) : Chg a b S := h.mono fun k e => e.elim
def TabPost (w : World) (g b : Nat) (n : Int) (L : List St) (e : Ending) (w' : World) : Prop := e = .returned (.int .i64 n) ∧ TbIs w' g b L ∧ Chg w w' (fun k => k = b)
set_option maxRecDepth 200000 in
set_option maxHeartbeats 2000000 in
theorem ses_open_any {w : World} {g b : Nat} {L : List St} (h : TbIs w g b L) {n : Int} (hk : (Lit.int .i64 n).wf = true) : Calls Tryz.prog 148 #[.pointer (some ⟨g, 0, none⟩), .int .i64 n] w (TabPost w g b (openT L n).1 (openT L n).2) := by
  have HM := hide (ses_made_any h.c0)
  have HC := fun w => ses_count_any w n
  have HH := hide h
  have HK := hide hk
  have hL8 := h.ok.len
  have HOK : Hid (TbOk (openT L n).2) := hide (h.ok.open_ n)
  obtain ⟨u, hu⟩ : ∃ u, (fndT L n).getD st0 = u := ⟨_, rfl⟩
  obtain ⟨th, hth⟩ : ∃ th, (fndT L n).isSome = th := ⟨_, rfl⟩
  have HU := hide hu
  have HTH := hide hth
  clear h hk hu hth
  go_enter Tryz.func148, Tryz.ntmps148
  go_wp2_with fail
  refine HM.out.mono ?_
  rintro e X ⟨rfl, hcX⟩
  have hX := HH.out.chg hcX (fun e => e) (fun e => e)
  have c0 := hX.c0
  obtain ⟨D, hD⟩ := hX.map
  have hl : (Instr.lookup 171 (.map (some b)) (.int .i64 n) true).run Tryz.prog X = .ok (.tuple #[stV u, .bool th]) X := by
    have := (hD.look HK.out 0).1
    rwa [HU.out, HTH.out] at this
  have HD := hide hD
  have HX := hide hX
  have HCX := hide hcX
  clear hX hD hcX
  obtain ⟨s, q, a, ⟨e1, e2, e3, e4, e5, e6, e7, e8⟩⟩ := u
  unfold stV at hl
  dsimp only at hl
  have hgX := HX.out.gl
  have hgn : g ≠ X.heap.size := by omega
  obtain ⟨Y, hY⟩ : ∃ Y, X.alloc (.cells #[.int .i64 s, .int .i64 q, .int .i64 a, .int .i64 e1, .int .i64 e2, .int .i64 e3, .int .i64 e4, .int .i64 e5, .int .i64 e6, .int .i64 e7, .int .i64 e8] 84) = Y := ⟨_, rfl⟩
  have c0Y : Y.cell? ⟨g, 0, none⟩ = some (.map (some b)) := by rw [← hY]; exact Lib.cell?_alloc_some _ c0
  have HY : Hid (TbIs Y g b L) := hide (by rw [← hY]; exact HX.out.alloc _)
  have HCY : Hid (Chg w Y (fun _ => False)) := hide (by rw [← hY]; exact HCX.out.alloc _)
  cases th
  · have hf : fndT L n = none := by have := HTH.out; simpa using this
    cases hc : c40 n
    · have HR : Hid (openT L n = (1, L)) := hide (by unfold openT; rw [hf, hc]; rfl)
      rw [hc] at HC
      clear hf hc
      go_wp2_with fail
      refine (HC _).mono ?_
      rintro e w1 ⟨rfl, rfl⟩
      go_wp2
      go_ret
      rw [HR.out]
      exact ⟨by rfl, HY.out, HCY.out.nope _⟩
    · rw [hc] at HC
      obtain ⟨D2, hD2⟩ := HY.out.map
      have hlen := hD2.map.len Tryz.underlying171 3
      rw [hD2.rd.size] at hlen
      have HD2 := hide hD2
      clear hD2
      by_cases h8 : (8 : Int) ≤ (L.length : Int)
      · have HR : Hid (openT L n = (7, L)) := hide (by unfold openT; rw [hf, hc, if_neg (by simp), if_pos (by omega)])
        clear hf hc
        go_wp2_with fail
        refine (HC _).mono ?_
        rintro e w1 ⟨rfl, rfl⟩
        go_wp2
        go_ret
        rw [HR.out]
        exact ⟨by rfl, HY.out, HCY.out.nope _⟩
      · have HR : Hid (openT L n = (0, insT L ⟨n, 0, n, rp0⟩)) := hide (by unfold openT; rw [hf, hc, if_neg (by simp), if_neg (by omega)])
        clear hf hc
        obtain ⟨w2, D3, hrun, hg2, hm2⟩ := HD2.out.store (x := ⟨n, 0, n, rp0⟩) HK.out (by simp [maxLen]; omega)
        unfold stV rp0 at hrun
        dsimp only at hrun
        have HG2 := hide hg2
        have HM2 := hide hm2
        clear hg2 hm2
        go_wp2_with fail
        refine (HC _).mono ?_
        rintro e w1 ⟨rfl, rfl⟩
        go_wp2
        go_ret
        have hc2 : Chg Y w2 (fun k => k = b) := Chg.of_grown HG2.out _ (fun k e => by injection e with e; exact .inl e.symm)
        rw [HR.out] at HOK ⊢
        exact ⟨by rfl, HY.out.with_ hc2 HM2.out HOK.out, (HCY.out.nope _).trans hc2 fun k hk => .inl hk⟩
  · obtain ⟨y, hf⟩ := Option.isSome_iff_exists.1 HTH.out
    have HR : Hid (openT L n = (1, L)) := hide (by unfold openT; rw [hf]; rfl)
    clear hf
    go_wp2
    go_ret
    rw [HR.out]
    exact ⟨by rfl, HY.out, HCY.out.nope _⟩
end Go.Proofs.YtionbmlicmibgaaGreatDoor
namespace Go.Proofs.YtionbmlicmibgaaGreatDoor
set_option linter.unusedVariables false
set_option linter.unusedSimpArgs false
open Go.RowKit
def AskPost (w : World) (p : Rp × Bool × Int) (e : Ending) (w' : World) : Prop := e = .returned (.tuple #[rpV p.1, .bool p.2.1, .int .i64 p.2.2]) ∧ Below w.heap.size w w'
theorem set8 (Y : World) (r : Nat) (t : TypeId) (v0 v1 v2 v3 v4 v5 v6 v7 x0 x1 x2 x3 x4 x5 x6 x7 : Value) (h : Y.heap[r]? = some (.cells #[v0, v1, v2, v3, v4, v5, v6, v7] t)) :
    ((((((((Y.setCell ⟨r, 0, none⟩ x0).setCell ⟨r, 1, none⟩ x1).setCell ⟨r, 2, none⟩ x2).setCell ⟨r, 3, none⟩ x3).setCell ⟨r, 4, none⟩ x4).setCell ⟨r, 5, none⟩ x5).setCell ⟨r, 6, none⟩ x6).setCell ⟨r, 7, none⟩ x7).heap[r]? = some (.cells #[x0, x1, x2, x3, x4, x5, x6, x7] t) := by
  have q0 := heap_setCell_same Y r 0 _ t x0 h
  have q1 := heap_setCell_same _ r 1 _ t x1 q0
  have q2 := heap_setCell_same _ r 2 _ t x2 q1
  have q3 := heap_setCell_same _ r 3 _ t x3 q2
  have q4 := heap_setCell_same _ r 4 _ t x4 q3
  have q5 := heap_setCell_same _ r 5 _ t x5 q4
  have q6 := heap_setCell_same _ r 6 _ t x6 q5
  have q7 := heap_setCell_same _ r 7 _ t x7 q6
  simp only [List.setIfInBounds_toArray, List.set_cons_succ, List.set_cons_zero] at q7
  exact q7
theorem bset3 {B : Nat} {w Y : World} {r : Nat} (x0 x1 x2 : Value) (h : Below B w Y) (hB : B ≤ r) : Below B w (((Y.setCell ⟨r, 0, none⟩ x0).setCell ⟨r, 1, none⟩ x1).setCell ⟨r, 2, none⟩ x2) := by
  have step : ∀ (V : World) (i : Nat) (x : Value), Below B w V → Below B w (V.setCell ⟨r, i, none⟩ x) := fun V i x hV => bset hV hB
  exact step _ _ _ (step _ _ _ (step _ _ _ h))
theorem bset4 {B : Nat} {w Y : World} {r : Nat} (x0 x1 x2 x3 : Value) (h : Below B w Y) (hB : B ≤ r) : Below B w ((((Y.setCell ⟨r, 0, none⟩ x0).setCell ⟨r, 1, none⟩ x1).setCell ⟨r, 2, none⟩ x2).setCell ⟨r, 3, none⟩ x3) := by
  have step : ∀ (V : World) (i : Nat) (x : Value), Below B w V → Below B w (V.setCell ⟨r, i, none⟩ x) := fun V i x hV => bset hV hB
  exact step _ _ _ (bset3 x0 x1 x2 h hB)
theorem bset8 {B : Nat} {w Y : World} {r : Nat} (x0 x1 x2 x3 x4 x5 x6 x7 : Value) (h : Below B w Y) (hB : B ≤ r) : Below B w ((((((((Y.setCell ⟨r, 0, none⟩ x0).setCell ⟨r, 1, none⟩ x1).setCell ⟨r, 2, none⟩ x2).setCell ⟨r, 3, none⟩ x3).setCell ⟨r, 4, none⟩ x4).setCell ⟨r, 5, none⟩ x5).setCell ⟨r, 6, none⟩ x6).setCell ⟨r, 7, none⟩ x7) := by
  have step : ∀ (V : World) (i : Nat) (x : Value), Below B w V → Below B w (V.setCell ⟨r, i, none⟩ x) := fun V i x hV => bset hV hB
  have h4 := bset4 x0 x1 x2 x3 h hB
  have h5 := step _ 4 x4 h4
  have h6 := step _ 5 x5 h5
  have h7 := step _ 6 x6 h6
  have h8 := step _ 7 x7 h7
  exact h8
set_option maxRecDepth 200000 in
set_option maxHeartbeats 2000000 in
theorem ses_ask_any {w : World} {g b : Nat} {L : List St} (h : TbIs w g b L) {n m : Int} (hk : (Lit.int .i64 n).wf = true) (hm0 : -9223372036854775808 ≤ m) (hm1 : m ≤ 9223372036854775807) : Calls Tryz.prog 180 #[.pointer (some ⟨g, 0, none⟩), .int .i64 n, .int .i64 m] w (AskPost w (askT L n m)) := by
  obtain ⟨A, hA⟩ : ∃ A, w.alloc (.cells #[.int .i64 0, .int .i64 0, .int .i64 0, .int .i64 0, .int .i64 0, .int .i64 0, .int .i64 0, .int .i64 0] 66) = A := ⟨_, rfl⟩
  have hrA : A.heap[w.heap.size]? = some (.cells #[.int .i64 0, .int .i64 0, .int .i64 0, .int .i64 0, .int .i64 0, .int .i64 0, .int .i64 0, .int .i64 0] 66) := by rw [← hA]; exact heap_alloc_new w _
  have hA' : TbIs A g b L := by rw [← hA]; exact h.alloc _
  have hbA : Below w.heap.size w A := by rw [← hA]; exact (Below.refl _ _).alloc (Nat.le_refl _) _
  have HM := hide (ses_made_any hA'.c0)
  have HH := hide hA'
  have HK := hide hk
  have HRA := hide hrA
  have HBA := hide hbA
  have HOKS := hide h.ok.ok
  obtain ⟨u, hu⟩ : ∃ u, (fndT L n).getD st0 = u := ⟨_, rfl⟩
  obtain ⟨th, hth⟩ : ∃ th, (fndT L n).isSome = th := ⟨_, rfl⟩
  have HU := hide hu
  have HTH := hide hth
  have hgw : g ≠ w.heap.size := by have := h.gl; omega
  have HA := hide hA
  clear h hk hu hth hA' hrA hbA hA
  go_enter Tryz.func180, Tryz.ntmps180
  go_wp2_with fail
  rw [HA.out]
  refine HM.out.mono ?_
  rintro e X ⟨rfl, hcX⟩
  have hX := HH.out.chg hcX (fun e => e) (fun e => e)
  have c0 := hX.c0
  obtain ⟨D, hD⟩ := hX.map
  have hl : (Instr.lookup 171 (.map (some b)) (.int .i64 n) true).run Tryz.prog X = .ok (.tuple #[stV u, .bool th]) X := by
    have := (hD.look HK.out 0).1
    rwa [HU.out, HTH.out] at this
  have hrX : X.heap[w.heap.size]? = some (.cells #[.int .i64 0, .int .i64 0, .int .i64 0, .int .i64 0, .int .i64 0, .int .i64 0, .int .i64 0, .int .i64 0] 66) := (hcX.block _ (Array.getElem?_eq_some_iff.1 HRA.out).1 (fun e => e)).trans HRA.out
  have hwX : w.heap.size < X.heap.size := (Array.getElem?_eq_some_iff.1 hrX).1
  have hbX : Below w.heap.size w X := Chg.to_below HBA.out hcX (fun k e => e.elim)
  have HX := hide hX
  clear hX hD hcX
  have hun : th = true → fndT L n = some u ∧ 0 ≤ u.q ∧ u.q ≤ 1099511627776 := by
    intro e
    have h1 := HTH.out
    rw [e] at h1
    obtain ⟨y, hf⟩ := Option.isSome_iff_exists.1 h1
    have h2 := HU.out
    rw [hf] at h2
    simp at h2
    subst h2
    have := (St.ok_iff.1 (HOKS.out y (fndT_mem hf).1)).2.1
    exact ⟨hf, this.1, this.2⟩
  obtain ⟨s, q, a, ⟨e1, e2, e3, e4, e5, e6, e7, e8⟩⟩ := u
  unfold stV at hl
  dsimp only at hl hun
  have hgX := HX.out.gl
  have hgn : g ≠ X.heap.size := by omega
  obtain ⟨Y, hY⟩ : ∃ Y, X.alloc (.cells #[.int .i64 s, .int .i64 q, .int .i64 a, .int .i64 e1, .int .i64 e2, .int .i64 e3, .int .i64 e4, .int .i64 e5, .int .i64 e6, .int .i64 e7, .int .i64 e8] 84) = Y := ⟨_, rfl⟩
  have hrY : Y.heap[w.heap.size]? = some (.cells #[.int .i64 0, .int .i64 0, .int .i64 0, .int .i64 0, .int .i64 0, .int .i64 0, .int .i64 0, .int .i64 0] 66) := by
    rw [← hY]
    exact (Below.heap_alloc X _ _ hwX).trans hrX
  have hbY : Below w.heap.size w Y := by rw [← hY]; exact hbX.alloc hbX.size _
  have hcY : ∀ i v, #[Value.int .i64 s, .int .i64 q, .int .i64 a, .int .i64 e1, .int .i64 e2, .int .i64 e3, .int .i64 e4, .int .i64 e5, .int .i64 e6, .int .i64 e7, .int .i64 e8][i]? = some v → Y.cell? ⟨X.heap.size, i, none⟩ = some v := fun i v hi => by rw [← hY, World.cell?_alloc_new]; exact hi
  have y1 : Y.cell? ⟨X.heap.size, 1, none⟩ = some (.int .i64 q) := hcY 1 _ rfl
  have y3 : Y.cell? ⟨X.heap.size, 3, none⟩ = some (.int .i64 e1) := hcY 3 _ rfl
  have y4 : Y.cell? ⟨X.heap.size, 4, none⟩ = some (.int .i64 e2) := hcY 4 _ rfl
  have y5 : Y.cell? ⟨X.heap.size, 5, none⟩ = some (.int .i64 e3) := hcY 5 _ rfl
  have y6 : Y.cell? ⟨X.heap.size, 6, none⟩ = some (.int .i64 e4) := hcY 6 _ rfl
  have y7 : Y.cell? ⟨X.heap.size, 7, none⟩ = some (.int .i64 e5) := hcY 7 _ rfl
  have y8 : Y.cell? ⟨X.heap.size, 8, none⟩ = some (.int .i64 e6) := hcY 8 _ rfl
  have y9 : Y.cell? ⟨X.heap.size, 9, none⟩ = some (.int .i64 e7) := hcY 9 _ rfl
  have y10 : Y.cell? ⟨X.heap.size, 10, none⟩ = some (.int .i64 e8) := hcY 10 _ rfl
  have m0 := cell_of_row Y w.heap.size 0 _ 66 (0, 0) hrY
  have m1 := cell_of_row Y w.heap.size 1 _ 66 (0, 0) hrY
  have m2 := cell_of_row Y w.heap.size 2 _ 66 (0, 0) hrY
  have m3 := cell_of_row Y w.heap.size 3 _ 66 (0, 0) hrY
  have m4 := cell_of_row Y w.heap.size 4 _ 66 (0, 0) hrY
  have m5 := cell_of_row Y w.heap.size 5 _ 66 (0, 0) hrY
  have m6 := cell_of_row Y w.heap.size 6 _ 66 (0, 0) hrY
  have m7 := cell_of_row Y w.heap.size 7 _ 66 (0, 0) hrY
  have f0 := frozen_of_row Y w.heap.size 0 _ 66 hrY
  have f1 := frozen_of_row Y w.heap.size 1 _ 66 hrY
  have f2 := frozen_of_row Y w.heap.size 2 _ 66 hrY
  have f3 := frozen_of_row Y w.heap.size 3 _ 66 hrY
  have f4 := frozen_of_row Y w.heap.size 4 _ 66 hrY
  have f5 := frozen_of_row Y w.heap.size 5 _ 66 hrY
  have f6 := frozen_of_row Y w.heap.size 6 _ 66 hrY
  have f7 := frozen_of_row Y w.heap.size 7 _ 66 hrY
  simp at m0 m1 m2 m3 m4 m5 m6 m7
  have HRY := hide hrY
  have HBY := hide hbY
  clear hcY hrY hbY hrX hbX
  cases th
  · have HR : Hid (askT L n m = (rp0, false, 80)) := hide (by have hf : fndT L n = none := by have := HTH.out; simpa using this
                                                              unfold askT; rw [hf])
    clear hun
    go_wp2
    have hs8 := set8 Y w.heap.size 66 _ _ _ _ _ _ _ _ (.int .i64 0) (.int .i64 0) (.int .i64 0) (.int .i64 0) (.int .i64 0) (.int .i64 0) (.int .i64 0) (.int .i64 0) HRY.out
    have hb8 := bset8 (.int .i64 0) (.int .i64 0) (.int .i64 0) (.int .i64 0) (.int .i64 0) (.int .i64 0) (.int .i64 0) (.int .i64 0) HBY.out (Nat.le_refl _)
    obtain ⟨W9, hW9⟩ : ∃ W9, ((((((((Y.setCell ⟨w.heap.size, 0, none⟩ (.int .i64 0)).setCell ⟨w.heap.size, 1, none⟩ (.int .i64 0)).setCell ⟨w.heap.size, 2, none⟩ (.int .i64 0)).setCell ⟨w.heap.size, 3, none⟩ (.int .i64 0)).setCell ⟨w.heap.size, 4, none⟩ (.int .i64 0)).setCell ⟨w.heap.size, 5, none⟩ (.int .i64 0)).setCell ⟨w.heap.size, 6, none⟩ (.int .i64 0)).setCell ⟨w.heap.size, 7, none⟩ (.int .i64 0)) = W9 := ⟨_, rfl⟩
    rw [hW9] at hs8 hb8 ⊢
    clear hW9
    have n0 : W9.cell? ⟨w.heap.size, 0, none⟩ = some (.int .i64 0) := cell_of_row W9 w.heap.size 0 _ 66 (0, 0) hs8
    have n1 : W9.cell? ⟨w.heap.size, 1, none⟩ = some (.int .i64 0) := cell_of_row W9 w.heap.size 1 _ 66 (0, 0) hs8
    have n2 : W9.cell? ⟨w.heap.size, 2, none⟩ = some (.int .i64 0) := cell_of_row W9 w.heap.size 2 _ 66 (0, 0) hs8
    have n3 : W9.cell? ⟨w.heap.size, 3, none⟩ = some (.int .i64 0) := cell_of_row W9 w.heap.size 3 _ 66 (0, 0) hs8
    have n4 : W9.cell? ⟨w.heap.size, 4, none⟩ = some (.int .i64 0) := cell_of_row W9 w.heap.size 4 _ 66 (0, 0) hs8
    have n5 : W9.cell? ⟨w.heap.size, 5, none⟩ = some (.int .i64 0) := cell_of_row W9 w.heap.size 5 _ 66 (0, 0) hs8
    have n6 : W9.cell? ⟨w.heap.size, 6, none⟩ = some (.int .i64 0) := cell_of_row W9 w.heap.size 6 _ 66 (0, 0) hs8
    have n7 : W9.cell? ⟨w.heap.size, 7, none⟩ = some (.int .i64 0) := cell_of_row W9 w.heap.size 7 _ 66 (0, 0) hs8
    have hz9 : w.heap.size < W9.heap.size := lt_of_cell n0
    clear hs8
    rw [HR.out]
    refine bodyPost_ret (v := .tuple #[.agg #[.int .i64 0, .int .i64 0, .int .i64 0, .int .i64 0, .int .i64 0, .int .i64 0, .int .i64 0, .int .i64 0], .bool false, .int .i64 80]) (by simp [results, Tryz.results180, go_sem, n0, n1, n2, n3, n4, n5, n6, n7, hz9]) rfl ⟨rfl, hb8⟩
  · obtain ⟨hf, hq0, hq1⟩ := hun rfl
    have HF := hide hf
    clear hun hf
    by_cases h1 : m < q
    · have HR : Hid (askT L n m = (rp0, false, 81)) := hide (by unfold askT; rw [HF.out]; dsimp only; rw [if_pos (.inl h1)])
      go_wp2
      have hs8 := set8 Y w.heap.size 66 _ _ _ _ _ _ _ _ (.int .i64 0) (.int .i64 0) (.int .i64 0) (.int .i64 0) (.int .i64 0) (.int .i64 0) (.int .i64 0) (.int .i64 0) HRY.out
      have hb8 := bset8 (.int .i64 0) (.int .i64 0) (.int .i64 0) (.int .i64 0) (.int .i64 0) (.int .i64 0) (.int .i64 0) (.int .i64 0) HBY.out (Nat.le_refl _)
      obtain ⟨W9, hW9⟩ : ∃ W9, ((((((((Y.setCell ⟨w.heap.size, 0, none⟩ (.int .i64 0)).setCell ⟨w.heap.size, 1, none⟩ (.int .i64 0)).setCell ⟨w.heap.size, 2, none⟩ (.int .i64 0)).setCell ⟨w.heap.size, 3, none⟩ (.int .i64 0)).setCell ⟨w.heap.size, 4, none⟩ (.int .i64 0)).setCell ⟨w.heap.size, 5, none⟩ (.int .i64 0)).setCell ⟨w.heap.size, 6, none⟩ (.int .i64 0)).setCell ⟨w.heap.size, 7, none⟩ (.int .i64 0)) = W9 := ⟨_, rfl⟩
      rw [hW9] at hs8 hb8 ⊢
      clear hW9
      have n0 : W9.cell? ⟨w.heap.size, 0, none⟩ = some (.int .i64 0) := cell_of_row W9 w.heap.size 0 _ 66 (0, 0) hs8
      have n1 : W9.cell? ⟨w.heap.size, 1, none⟩ = some (.int .i64 0) := cell_of_row W9 w.heap.size 1 _ 66 (0, 0) hs8
      have n2 : W9.cell? ⟨w.heap.size, 2, none⟩ = some (.int .i64 0) := cell_of_row W9 w.heap.size 2 _ 66 (0, 0) hs8
      have n3 : W9.cell? ⟨w.heap.size, 3, none⟩ = some (.int .i64 0) := cell_of_row W9 w.heap.size 3 _ 66 (0, 0) hs8
      have n4 : W9.cell? ⟨w.heap.size, 4, none⟩ = some (.int .i64 0) := cell_of_row W9 w.heap.size 4 _ 66 (0, 0) hs8
      have n5 : W9.cell? ⟨w.heap.size, 5, none⟩ = some (.int .i64 0) := cell_of_row W9 w.heap.size 5 _ 66 (0, 0) hs8
      have n6 : W9.cell? ⟨w.heap.size, 6, none⟩ = some (.int .i64 0) := cell_of_row W9 w.heap.size 6 _ 66 (0, 0) hs8
      have n7 : W9.cell? ⟨w.heap.size, 7, none⟩ = some (.int .i64 0) := cell_of_row W9 w.heap.size 7 _ 66 (0, 0) hs8
      have hz9 : w.heap.size < W9.heap.size := lt_of_cell n0
      clear hs8
      rw [HR.out]
      refine bodyPost_ret (v := .tuple #[.agg #[.int .i64 0, .int .i64 0, .int .i64 0, .int .i64 0, .int .i64 0, .int .i64 0, .int .i64 0, .int .i64 0], .bool false, .int .i64 81]) (by simp [results, Tryz.results180, go_sem, n0, n1, n2, n3, n4, n5, n6, n7, hz9]) rfl ⟨rfl, hb8⟩
    · by_cases h2 : m < 1
      · have HR : Hid (askT L n m = (rp0, false, 81)) := hide (by unfold askT; rw [HF.out]; dsimp only; rw [if_pos (.inr h2)])
        go_wp2
        have hs8 := set8 Y w.heap.size 66 _ _ _ _ _ _ _ _ (.int .i64 0) (.int .i64 0) (.int .i64 0) (.int .i64 0) (.int .i64 0) (.int .i64 0) (.int .i64 0) (.int .i64 0) HRY.out
        have hb8 := bset8 (.int .i64 0) (.int .i64 0) (.int .i64 0) (.int .i64 0) (.int .i64 0) (.int .i64 0) (.int .i64 0) (.int .i64 0) HBY.out (Nat.le_refl _)
        obtain ⟨W9, hW9⟩ : ∃ W9, ((((((((Y.setCell ⟨w.heap.size, 0, none⟩ (.int .i64 0)).setCell ⟨w.heap.size, 1, none⟩ (.int .i64 0)).setCell ⟨w.heap.size, 2, none⟩ (.int .i64 0)).setCell ⟨w.heap.size, 3, none⟩ (.int .i64 0)).setCell ⟨w.heap.size, 4, none⟩ (.int .i64 0)).setCell ⟨w.heap.size, 5, none⟩ (.int .i64 0)).setCell ⟨w.heap.size, 6, none⟩ (.int .i64 0)).setCell ⟨w.heap.size, 7, none⟩ (.int .i64 0)) = W9 := ⟨_, rfl⟩
        rw [hW9] at hs8 hb8 ⊢
        clear hW9
        have n0 : W9.cell? ⟨w.heap.size, 0, none⟩ = some (.int .i64 0) := cell_of_row W9 w.heap.size 0 _ 66 (0, 0) hs8
        have n1 : W9.cell? ⟨w.heap.size, 1, none⟩ = some (.int .i64 0) := cell_of_row W9 w.heap.size 1 _ 66 (0, 0) hs8
        have n2 : W9.cell? ⟨w.heap.size, 2, none⟩ = some (.int .i64 0) := cell_of_row W9 w.heap.size 2 _ 66 (0, 0) hs8
        have n3 : W9.cell? ⟨w.heap.size, 3, none⟩ = some (.int .i64 0) := cell_of_row W9 w.heap.size 3 _ 66 (0, 0) hs8
        have n4 : W9.cell? ⟨w.heap.size, 4, none⟩ = some (.int .i64 0) := cell_of_row W9 w.heap.size 4 _ 66 (0, 0) hs8
        have n5 : W9.cell? ⟨w.heap.size, 5, none⟩ = some (.int .i64 0) := cell_of_row W9 w.heap.size 5 _ 66 (0, 0) hs8
        have n6 : W9.cell? ⟨w.heap.size, 6, none⟩ = some (.int .i64 0) := cell_of_row W9 w.heap.size 6 _ 66 (0, 0) hs8
        have n7 : W9.cell? ⟨w.heap.size, 7, none⟩ = some (.int .i64 0) := cell_of_row W9 w.heap.size 7 _ 66 (0, 0) hs8
        have hz9 : w.heap.size < W9.heap.size := lt_of_cell n0
        clear hs8
        rw [HR.out]
        refine bodyPost_ret (v := .tuple #[.agg #[.int .i64 0, .int .i64 0, .int .i64 0, .int .i64 0, .int .i64 0, .int .i64 0, .int .i64 0, .int .i64 0], .bool false, .int .i64 81]) (by simp [results, Tryz.results180, go_sem, n0, n1, n2, n3, n4, n5, n6, n7, hz9]) rfl ⟨rfl, hb8⟩
      · by_cases h3 : m = q
        · have HR : Hid (askT L n m = (⟨e1, e2, e3, e4, e5, e6, e7, e8⟩, true, 0)) := hide (by unfold askT; rw [HF.out]; dsimp only; rw [if_neg (by omega), if_pos h3])
          subst h3
          go_wp2
          have hs8 := set8 Y w.heap.size 66 _ _ _ _ _ _ _ _ (.int .i64 e1) (.int .i64 e2) (.int .i64 e3) (.int .i64 e4) (.int .i64 e5) (.int .i64 e6) (.int .i64 e7) (.int .i64 e8) HRY.out
          have hb8 := bset8 (.int .i64 e1) (.int .i64 e2) (.int .i64 e3) (.int .i64 e4) (.int .i64 e5) (.int .i64 e6) (.int .i64 e7) (.int .i64 e8) HBY.out (Nat.le_refl _)
          obtain ⟨W9, hW9⟩ : ∃ W9, ((((((((Y.setCell ⟨w.heap.size, 0, none⟩ (.int .i64 e1)).setCell ⟨w.heap.size, 1, none⟩ (.int .i64 e2)).setCell ⟨w.heap.size, 2, none⟩ (.int .i64 e3)).setCell ⟨w.heap.size, 3, none⟩ (.int .i64 e4)).setCell ⟨w.heap.size, 4, none⟩ (.int .i64 e5)).setCell ⟨w.heap.size, 5, none⟩ (.int .i64 e6)).setCell ⟨w.heap.size, 6, none⟩ (.int .i64 e7)).setCell ⟨w.heap.size, 7, none⟩ (.int .i64 e8)) = W9 := ⟨_, rfl⟩
          rw [hW9] at hs8 hb8 ⊢
          clear hW9
          have n0 : W9.cell? ⟨w.heap.size, 0, none⟩ = some (.int .i64 e1) := cell_of_row W9 w.heap.size 0 _ 66 (0, 0) hs8
          have n1 : W9.cell? ⟨w.heap.size, 1, none⟩ = some (.int .i64 e2) := cell_of_row W9 w.heap.size 1 _ 66 (0, 0) hs8
          have n2 : W9.cell? ⟨w.heap.size, 2, none⟩ = some (.int .i64 e3) := cell_of_row W9 w.heap.size 2 _ 66 (0, 0) hs8
          have n3 : W9.cell? ⟨w.heap.size, 3, none⟩ = some (.int .i64 e4) := cell_of_row W9 w.heap.size 3 _ 66 (0, 0) hs8
          have n4 : W9.cell? ⟨w.heap.size, 4, none⟩ = some (.int .i64 e5) := cell_of_row W9 w.heap.size 4 _ 66 (0, 0) hs8
          have n5 : W9.cell? ⟨w.heap.size, 5, none⟩ = some (.int .i64 e6) := cell_of_row W9 w.heap.size 5 _ 66 (0, 0) hs8
          have n6 : W9.cell? ⟨w.heap.size, 6, none⟩ = some (.int .i64 e7) := cell_of_row W9 w.heap.size 6 _ 66 (0, 0) hs8
          have n7 : W9.cell? ⟨w.heap.size, 7, none⟩ = some (.int .i64 e8) := cell_of_row W9 w.heap.size 7 _ 66 (0, 0) hs8
          have hz9 : w.heap.size < W9.heap.size := lt_of_cell n0
          clear hs8
          rw [HR.out]
          refine bodyPost_ret (v := .tuple #[.agg #[.int .i64 e1, .int .i64 e2, .int .i64 e3, .int .i64 e4, .int .i64 e5, .int .i64 e6, .int .i64 e7, .int .i64 e8], .bool true, .int .i64 0]) (by simp [results, Tryz.results180, go_sem, n0, n1, n2, n3, n4, n5, n6, n7, hz9]) rfl ⟨rfl, hb8⟩
        · by_cases h4 : q + 1 < m
          · have HR : Hid (askT L n m = (rp0, false, 82)) := hide (by unfold askT; rw [HF.out]; dsimp only; rw [if_neg (by omega), if_neg h3, if_pos h4])
            go_wp2
            have hs8 := set8 Y w.heap.size 66 _ _ _ _ _ _ _ _ (.int .i64 0) (.int .i64 0) (.int .i64 0) (.int .i64 0) (.int .i64 0) (.int .i64 0) (.int .i64 0) (.int .i64 0) HRY.out
            have hb8 := bset8 (.int .i64 0) (.int .i64 0) (.int .i64 0) (.int .i64 0) (.int .i64 0) (.int .i64 0) (.int .i64 0) (.int .i64 0) HBY.out (Nat.le_refl _)
            obtain ⟨W9, hW9⟩ : ∃ W9, ((((((((Y.setCell ⟨w.heap.size, 0, none⟩ (.int .i64 0)).setCell ⟨w.heap.size, 1, none⟩ (.int .i64 0)).setCell ⟨w.heap.size, 2, none⟩ (.int .i64 0)).setCell ⟨w.heap.size, 3, none⟩ (.int .i64 0)).setCell ⟨w.heap.size, 4, none⟩ (.int .i64 0)).setCell ⟨w.heap.size, 5, none⟩ (.int .i64 0)).setCell ⟨w.heap.size, 6, none⟩ (.int .i64 0)).setCell ⟨w.heap.size, 7, none⟩ (.int .i64 0)) = W9 := ⟨_, rfl⟩
            rw [hW9] at hs8 hb8 ⊢
            clear hW9
            have n0 : W9.cell? ⟨w.heap.size, 0, none⟩ = some (.int .i64 0) := cell_of_row W9 w.heap.size 0 _ 66 (0, 0) hs8
            have n1 : W9.cell? ⟨w.heap.size, 1, none⟩ = some (.int .i64 0) := cell_of_row W9 w.heap.size 1 _ 66 (0, 0) hs8
            have n2 : W9.cell? ⟨w.heap.size, 2, none⟩ = some (.int .i64 0) := cell_of_row W9 w.heap.size 2 _ 66 (0, 0) hs8
            have n3 : W9.cell? ⟨w.heap.size, 3, none⟩ = some (.int .i64 0) := cell_of_row W9 w.heap.size 3 _ 66 (0, 0) hs8
            have n4 : W9.cell? ⟨w.heap.size, 4, none⟩ = some (.int .i64 0) := cell_of_row W9 w.heap.size 4 _ 66 (0, 0) hs8
            have n5 : W9.cell? ⟨w.heap.size, 5, none⟩ = some (.int .i64 0) := cell_of_row W9 w.heap.size 5 _ 66 (0, 0) hs8
            have n6 : W9.cell? ⟨w.heap.size, 6, none⟩ = some (.int .i64 0) := cell_of_row W9 w.heap.size 6 _ 66 (0, 0) hs8
            have n7 : W9.cell? ⟨w.heap.size, 7, none⟩ = some (.int .i64 0) := cell_of_row W9 w.heap.size 7 _ 66 (0, 0) hs8
            have hz9 : w.heap.size < W9.heap.size := lt_of_cell n0
            clear hs8
            rw [HR.out]
            refine bodyPost_ret (v := .tuple #[.agg #[.int .i64 0, .int .i64 0, .int .i64 0, .int .i64 0, .int .i64 0, .int .i64 0, .int .i64 0, .int .i64 0], .bool false, .int .i64 82]) (by simp [results, Tryz.results180, go_sem, n0, n1, n2, n3, n4, n5, n6, n7, hz9]) rfl ⟨rfl, hb8⟩
          · have HR : Hid (askT L n m = (rp0, false, 0)) := hide (by unfold askT; rw [HF.out]; dsimp only; rw [if_neg (by omega), if_neg h3, if_neg h4])
            go_wp2
            have hs8 := set8 Y w.heap.size 66 _ _ _ _ _ _ _ _ (.int .i64 0) (.int .i64 0) (.int .i64 0) (.int .i64 0) (.int .i64 0) (.int .i64 0) (.int .i64 0) (.int .i64 0) HRY.out
            have hb8 := bset8 (.int .i64 0) (.int .i64 0) (.int .i64 0) (.int .i64 0) (.int .i64 0) (.int .i64 0) (.int .i64 0) (.int .i64 0) HBY.out (Nat.le_refl _)
            obtain ⟨W9, hW9⟩ : ∃ W9, ((((((((Y.setCell ⟨w.heap.size, 0, none⟩ (.int .i64 0)).setCell ⟨w.heap.size, 1, none⟩ (.int .i64 0)).setCell ⟨w.heap.size, 2, none⟩ (.int .i64 0)).setCell ⟨w.heap.size, 3, none⟩ (.int .i64 0)).setCell ⟨w.heap.size, 4, none⟩ (.int .i64 0)).setCell ⟨w.heap.size, 5, none⟩ (.int .i64 0)).setCell ⟨w.heap.size, 6, none⟩ (.int .i64 0)).setCell ⟨w.heap.size, 7, none⟩ (.int .i64 0)) = W9 := ⟨_, rfl⟩
            rw [hW9] at hs8 hb8 ⊢
            clear hW9
            have n0 : W9.cell? ⟨w.heap.size, 0, none⟩ = some (.int .i64 0) := cell_of_row W9 w.heap.size 0 _ 66 (0, 0) hs8
            have n1 : W9.cell? ⟨w.heap.size, 1, none⟩ = some (.int .i64 0) := cell_of_row W9 w.heap.size 1 _ 66 (0, 0) hs8
            have n2 : W9.cell? ⟨w.heap.size, 2, none⟩ = some (.int .i64 0) := cell_of_row W9 w.heap.size 2 _ 66 (0, 0) hs8
            have n3 : W9.cell? ⟨w.heap.size, 3, none⟩ = some (.int .i64 0) := cell_of_row W9 w.heap.size 3 _ 66 (0, 0) hs8
            have n4 : W9.cell? ⟨w.heap.size, 4, none⟩ = some (.int .i64 0) := cell_of_row W9 w.heap.size 4 _ 66 (0, 0) hs8
            have n5 : W9.cell? ⟨w.heap.size, 5, none⟩ = some (.int .i64 0) := cell_of_row W9 w.heap.size 5 _ 66 (0, 0) hs8
            have n6 : W9.cell? ⟨w.heap.size, 6, none⟩ = some (.int .i64 0) := cell_of_row W9 w.heap.size 6 _ 66 (0, 0) hs8
            have n7 : W9.cell? ⟨w.heap.size, 7, none⟩ = some (.int .i64 0) := cell_of_row W9 w.heap.size 7 _ 66 (0, 0) hs8
            have hz9 : w.heap.size < W9.heap.size := lt_of_cell n0
            clear hs8
            rw [HR.out]
            refine bodyPost_ret (v := .tuple #[.agg #[.int .i64 0, .int .i64 0, .int .i64 0, .int .i64 0, .int .i64 0, .int .i64 0, .int .i64 0, .int .i64 0], .bool false, .int .i64 0]) (by simp [results, Tryz.results180, go_sem, n0, n1, n2, n3, n4, n5, n6, n7, hz9]) rfl ⟨rfl, hb8⟩
end Go.Proofs.YtionbmlicmibgaaGreatDoor
namespace Go.Proofs.YtionbmlicmibgaaGreatDoor
set_option linter.unusedVariables false
set_option linter.unusedSimpArgs false
open Go.RowKit
theorem st_ok_of {L : List St} {n m : Int} (h : (askT L n m).2.2 = 0) (hd : (askT L n m).2.1 = false) (ho : TbOk L) : ∃ y, fndT L n = some y ∧ m = y.q + 1 ∧ y ∈ L ∧ y.s = n ∧ 0 ≤ y.q ∧ y.q ≤ 1099511627776 ∧ 1 ≤ n ∧ n ≤ 1099511627776 := by
  unfold askT at h hd
  cases hf : fndT L n with
  | none => rw [hf] at h; simp at h
  | some y =>
    rw [hf] at h hd
    dsimp only at h hd
    obtain ⟨hy, hs⟩ := fndT_mem hf
    have hok := St.ok_iff.1 (ho.ok y hy)
    refine ⟨y, rfl, ?_, hy, hs, hok.2.1.1, hok.2.1.2, by rw [← hs]; exact hok.1.1, by rw [← hs]; exact hok.1.2⟩
    split at h
    · simp at h
    · rename_i h1
      split at h
      · rename_i h2
        rw [if_neg h1, if_pos h2] at hd
        simp at hd
      · split at h
        · simp at h
        · omega
set_option maxRecDepth 200000 in
set_option maxHeartbeats 2000000 in
theorem ses_keep_any {w : World} {g b : Nat} {L : List St} (h : TbIs w g b L) {n m a : Int} {r : Rp} (hk : (Lit.int .i64 n).wf = true) (hm0 : -9223372036854775808 ≤ m) (hm1 : m ≤ 9223372036854775807) : Calls Tryz.prog 182 #[.pointer (some ⟨g, 0, none⟩), .int .i64 n, .int .i64 m, .int .i64 a, rpV r] w (TabPost w g b (keepT L n m a r).1 (keepT L n m a r).2) := by
  obtain ⟨A, hA⟩ : ∃ A, w.alloc (.cells (rpC r).toArray 66) = A := ⟨_, rfl⟩
  have hA' : TbIs A g b L := by rw [← hA]; exact h.alloc _
  have hcA : Chg w A (fun _ => False) := by rw [← hA]; exact (Chg.refl w _).alloc _
  have hrA : ∀ i v, (rpC r)[i]? = some v → A.cell? ⟨w.heap.size, i, none⟩ = some v := fun i v hi => by rw [← hA, World.cell?_alloc_new]; simpa using hi
  have hwA : w.heap.size < A.heap.size := by rw [← hA]; simp
  have HASK := hide (ses_ask_any hA' hk hm0 hm1)
  have HH := hide hA'
  have HCA := hide hcA
  have HK := hide hk
  have HRA := hide hrA
  have HOK : Hid (TbOk (keepT L n m a r).2) := hide (h.ok.keep n m a r)
  have HOL := hide h.ok
  have HST := fun w => ses_stand_any w ⟨n, m, a, r⟩
  obtain ⟨p, hp⟩ : ∃ p, askT L n m = p := ⟨_, rfl⟩
  rw [hp] at HASK
  have HP := hide hp
  clear h hA' hcA hrA hk hp
  obtain ⟨r', d, er⟩ := p
  unfold rpC at hA HRA
  unfold rpV
  go_enter Tryz.func182, Tryz.ntmps182
  go_wp2_with fail
  refine HASK.out.mono ?_
  rintro e X ⟨rfl, hbX⟩
  dsimp only
  have hX := HH.out.below hbX
  have HX := hide hX
  have hcX := HCA.out.belowed hbX
  have HCX := hide hcX
  have hwX : w.heap.size < X.heap.size := Nat.lt_of_lt_of_le hwA hbX.size
  have xr : ∀ i v, (rpC r)[i]? = some v → X.cell? ⟨w.heap.size, i, none⟩ = some v := fun i v hi => (hbX.cell (p := ⟨w.heap.size, i, none⟩) hwA).trans (HRA.out i v hi)
  clear hbX hX hcX
  obtain ⟨r1, r2, r3, r4, r5, r6, r7, r8⟩ := r'
  unfold rpV
  dsimp only
  obtain ⟨Y, hY⟩ : ∃ Y, X.alloc (.cells #[.int .i64 r1, .int .i64 r2, .int .i64 r3, .int .i64 r4, .int .i64 r5, .int .i64 r6, .int .i64 r7, .int .i64 r8] 66) = Y := ⟨_, rfl⟩
  have HY : Hid (TbIs Y g b L) := hide (by rw [← hY]; exact HX.out.alloc _)
  have HCY : Hid (Chg w Y (fun _ => False)) := hide (by rw [← hY]; exact HCX.out.alloc _)
  have yr : ∀ i v, (rpC r)[i]? = some v → Y.cell? ⟨w.heap.size, i, none⟩ = some v := fun i v hi => by rw [← hY]; exact Lib.cell?_alloc_some _ (xr i v hi)
  clear xr
  have HYR := hide yr
  clear yr
  by_cases he : er = 0
  · subst he
    cases d
    · obtain ⟨y, hfy, hmy, hy, hys, hy0, hy1, hn0, hn1⟩ := st_ok_of (L := L) (n := n) (m := m) (by rw [HP.out]) (by rw [HP.out]) HOL.out
      have hkeep : keepT L n m a r = if (⟨n, m, a, r⟩ : St).ok then (0, insT L ⟨n, m, a, r⟩) else (1, L) := by
        unfold keepT
        rw [HP.out]
        rfl
      have y0 := HYR.out 0 _ rfl
      have y1 := HYR.out 1 _ rfl
      have y2 := HYR.out 2 _ rfl
      have y3 := HYR.out 3 _ rfl
      have y4 := HYR.out 4 _ rfl
      have y5 := HYR.out 5 _ rfl
      have y6 := HYR.out 6 _ rfl
      have y7 := HYR.out 7 _ rfl
      have HF := hide (And.intro hfy hmy)
      have HKP := hide hkeep
      clear hfy hmy hkeep hy hys hy0 hy1
      obtain ⟨Z, hZ⟩ : ∃ Z, Y.alloc (.cells #[.int .i64 n, .int .i64 m, .int .i64 a, .int .i64 r.er, .int .i64 r.rs, .int .i64 r.gn, .int .i64 r.ad, .int .i64 r.sa, .int .i64 r.ot, .int .i64 r.cy, .int .i64 r.fu] 84) = Z := ⟨_, rfl⟩
      have HZ : Hid (TbIs Z g b L) := hide (by rw [← hZ]; exact HY.out.alloc _)
      have HCZ : Hid (Chg w Z (fun _ => False)) := hide (by rw [← hZ]; exact HCY.out.alloc _)
      have hzr : ∀ i v, (stC ⟨n, m, a, r⟩)[i]? = some v → Z.cell? ⟨Y.heap.size, i, none⟩ = some v := fun i v hi => by
        rw [← hZ, World.cell?_alloc_new]
        unfold stC at hi
        simpa using hi
      have hyZ : Y.heap.size < Z.heap.size := by rw [← hZ]; simp
      have z0 : Z.cell? ⟨Y.heap.size, 0, none⟩ = some (.int .i64 n) := hzr 0 _ rfl
      have z1 : Z.cell? ⟨Y.heap.size, 1, none⟩ = some (.int .i64 m) := hzr 1 _ rfl
      have z2 : Z.cell? ⟨Y.heap.size, 2, none⟩ = some (.int .i64 a) := hzr 2 _ rfl
      have z3 : Z.cell? ⟨Y.heap.size, 3, none⟩ = some (.int .i64 r.er) := hzr 3 _ rfl
      have z4 : Z.cell? ⟨Y.heap.size, 4, none⟩ = some (.int .i64 r.rs) := hzr 4 _ rfl
      have z5 : Z.cell? ⟨Y.heap.size, 5, none⟩ = some (.int .i64 r.gn) := hzr 5 _ rfl
      have z6 : Z.cell? ⟨Y.heap.size, 6, none⟩ = some (.int .i64 r.ad) := hzr 6 _ rfl
      have z7 : Z.cell? ⟨Y.heap.size, 7, none⟩ = some (.int .i64 r.sa) := hzr 7 _ rfl
      have z8 : Z.cell? ⟨Y.heap.size, 8, none⟩ = some (.int .i64 r.ot) := hzr 8 _ rfl
      have z9 : Z.cell? ⟨Y.heap.size, 9, none⟩ = some (.int .i64 r.cy) := hzr 9 _ rfl
      have z10 : Z.cell? ⟨Y.heap.size, 10, none⟩ = some (.int .i64 r.fu) := hzr 10 _ rfl
      have HZR := hide hzr
      clear hzr
      cases hok : (⟨n, m, a, r⟩ : St).ok
      · rw [hok] at HST
        have HR : Hid (keepT L n m a r = (1, L)) := hide (by rw [HKP.out, hok]; rfl)
        clear hok
        unfold stV at HST
        dsimp only at HST
        go_wp2_with fail
        refine (HST _).mono ?_
        rintro e w3 ⟨rfl, hb3⟩
        have HB3 := hide hb3
        clear hb3
        go_wp2
        go_ret
        rw [HR.out]
        exact ⟨by rfl, HZ.out.below HB3.out, (HCZ.out.belowed HB3.out).nope _⟩
      · rw [hok] at HST
        have HR : Hid (keepT L n m a r = (0, insT L ⟨n, m, a, r⟩)) := hide (by rw [HKP.out, hok]; rfl)
        clear hok
        unfold stV at HST
        dsimp only at HST
        go_wp2_with fail
        refine (HST _).mono ?_
        rintro e w3 ⟨rfl, hb3⟩
        have h3 := HZ.out.below hb3
        have c0 := h3.c0
        have hz3 : ∀ i v, (stC ⟨n, m, a, r⟩)[i]? = some v → w3.cell? ⟨Y.heap.size, i, none⟩ = some v := fun i v hi => (hb3.cell (p := ⟨Y.heap.size, i, none⟩) hyZ).trans (HZR.out i v hi)
        have x0 : w3.cell? ⟨Y.heap.size, 0, none⟩ = some (.int .i64 n) := hz3 0 _ rfl
        have x1 : w3.cell? ⟨Y.heap.size, 1, none⟩ = some (.int .i64 m) := hz3 1 _ rfl
        have x2 : w3.cell? ⟨Y.heap.size, 2, none⟩ = some (.int .i64 a) := hz3 2 _ rfl
        have x3 : w3.cell? ⟨Y.heap.size, 3, none⟩ = some (.int .i64 r.er) := hz3 3 _ rfl
        have x4 : w3.cell? ⟨Y.heap.size, 4, none⟩ = some (.int .i64 r.rs) := hz3 4 _ rfl
        have x5 : w3.cell? ⟨Y.heap.size, 5, none⟩ = some (.int .i64 r.gn) := hz3 5 _ rfl
        have x6 : w3.cell? ⟨Y.heap.size, 6, none⟩ = some (.int .i64 r.ad) := hz3 6 _ rfl
        have x7 : w3.cell? ⟨Y.heap.size, 7, none⟩ = some (.int .i64 r.sa) := hz3 7 _ rfl
        have x8 : w3.cell? ⟨Y.heap.size, 8, none⟩ = some (.int .i64 r.ot) := hz3 8 _ rfl
        have x9 : w3.cell? ⟨Y.heap.size, 9, none⟩ = some (.int .i64 r.cy) := hz3 9 _ rfl
        have x10 : w3.cell? ⟨Y.heap.size, 10, none⟩ = some (.int .i64 r.fu) := hz3 10 _ rfl
        obtain ⟨D, hD⟩ := h3.map
        have hD' : TmIs w3.drew b L D := hD.drewN 1
        obtain ⟨w4, D4, hrun, hg4, hm4⟩ := hD'.store (x := ⟨n, m, a, r⟩) HK.out (by have := HOL.out.len; simp [maxLen]; omega)
        unfold stV at hrun
        dsimp only at hrun
        have H3 := hide (And.intro hb3 (And.intro hg4 hm4))
        have HT3 := hide h3
        clear hb3 hg4 hm4 h3 hz3 hD hD'
        go_wp2
        go_region
        all_goals
          go_wp2
          go_ret
          have hc4 : Chg w3.drew w4 (fun k => k = b) := Chg.of_grown H3.out.2.1 _ (fun k e => by injection e with e; exact .inl e.symm)
          have hcd : Chg w3 w4 (fun k => k = b) := ((Chg.refl w3 (fun k => k = b)).drewN 1).trans hc4 fun k hk => .inl hk
          rw [HR.out] at HOK ⊢
          exact ⟨by rfl, HT3.out.with_ hcd H3.out.2.2 HOK.out, ((HCZ.out.belowed H3.out.1).nope _).trans hcd fun k hk => .inl hk⟩
    · have HR : Hid (keepT L n m a r = (81, L)) := hide (by unfold keepT; rw [HP.out]; rfl)
      go_wp2
      go_ret
      rw [HR.out]
      exact ⟨by rfl, HY.out, HCY.out.nope _⟩
  · have HR : Hid (keepT L n m a r = (er, L)) := hide (by unfold keepT; rw [HP.out]; exact if_pos he)
    go_wp2
    go_ret
    rw [HR.out]
    exact ⟨by rfl, HY.out, HCY.out.nope _⟩
end Go.Proofs.YtionbmlicmibgaaGreatDoor
namespace Go.Proofs.YtionbmlicmibgaaGreatDoor
set_option linter.unusedVariables false
set_option linter.unusedSimpArgs false
open Go.RowKit
theorem RdT.came {D : DataW Value} {L : List St} (h : RdT D L) {k : Int} {c : Array Value} {kl : Lit} {y : DataW Value × List MemPlace}
    (hk : keyOf Tryz.prog 3 (.int .i64 k) = some kl) (hv : heldA (.agg c) = some y) (hat : ∀ zd, D.atKey kl zd = y.1) : ∃ x, x ∈ L ∧ k = x.s ∧ kl = .int .i64 x.s ∧ c = (stC x).toArray := by
  obtain ⟨k', e, hkl, hwf⟩ := Maps.keyOf_int_inv Tryz.underlying3 hk
  injection e with _ e
  subst e
  subst hkl
  have hh := Maps.has_true_of_atKey hat
  rw [h.keys] at hh
  obtain ⟨x, hx⟩ := Option.isSome_iff_exists.1 hh
  have e1 := h.vals _ x hx .nil
  rw [hat, (heldA_agg hv).2] at e1
  injection e1 with e1
  injection e1 with e1
  obtain ⟨h1, h2⟩ := fndT_mem hx
  exact ⟨x, h1, h2.symm, by rw [h2], e1⟩
theorem del_filter {L : List St} (h : RisesT L) {x : St} (hx : x ∈ L) : (L.filter fun y => decide (y.s ≠ x.s)).length + 1 = L.length := by
  induction L with
  | nil => simp at hx
  | cons y r ih =>
    obtain ⟨h1, h2⟩ := List.pairwise_cons.1 h
    rcases List.mem_cons.1 hx with rfl | hx
    · rw [List.filter_cons_of_neg (by simp), List.filter_eq_self.2 (fun z hz => by have := h1 z hz; simp; omega)]
      rfl
    · have := h1 x hx
      rw [List.filter_cons_of_pos (by simp; omega), List.length_cons, List.length_cons, ih h2 hx]
theorem RdT.del {D : DataW Value} {L : List St} (h : RdT D L) (ht : Maps.Tidy D) {x : St} (hx : x ∈ L) : RdT (D.del (.int .i64 x.s)) (L.filter fun y => decide (y.s ≠ x.s)) := by
  have hf := fndT_of h.rises.ids hx
  refine ⟨?_, fun k => ?_, fun k y hy => ?_, h.rises.sublist List.filter_sublist⟩
  · have h1 := Maps.size_del (k := .int .i64 x.s) ht
    rw [h.keys, hf, h.size] at h1
    have h2 := del_filter h.rises hx
    simp at h1
    omega
  · rw [fndT_filter h.rises.ids]
    by_cases e : k = x.s
    · subst e
      rw [Maps.has_del_same, hf]
      simp
    · rw [Maps.has_del_other (fun h => e (by injection h)), h.keys]
      cases hk : fndT L k with
      | none => rfl
      | some y =>
        have := (fndT_mem hk).2
        simp [this, e]
  · rw [fndT_filter h.rises.ids] at hy
    intro z
    have hne : k ≠ x.s := by
      intro e
      subst e
      rw [hf] at hy
      simp at hy
      obtain ⟨rfl, hy⟩ := hy
      exact hy rfl
    rw [Maps.atKey_del_other (fun h => hne (by injection h))]
    refine h.vals k y ?_ z
    cases hk : fndT L k with
    | none => rw [hk] at hy; simp at hy
    | some u =>
      rw [hk, Option.filter_some] at hy
      split at hy
      · exact hy
      · simp at hy
def curT (L : List St) (left : Lit → Bool) (f : Int) : List St := L.filter fun x => left (.int .i64 x.s) || decide (f ≤ x.a)
theorem curT_all {L : List St} {left : Lit → Bool} {f : Int} (h : ∀ x ∈ L, left (.int .i64 x.s) = true) : curT L left f = L := List.filter_eq_self.2 fun x hx => by rw [h x hx]; rfl
theorem curT_none {L : List St} {left : Lit → Bool} {f : Int} (h : ∀ k, left k = false) : curT L left f = expT L f := List.filter_congr fun x hx => by rw [h]; rfl
theorem eq_of_ids {L : List St} (h : RisesT L) {x y : St} (hx : x ∈ L) (hy : y ∈ L) (e : x.s = y.s) : x = y := by
  have h1 := fndT_of h.ids hx
  rw [e, fndT_of h.ids hy] at h1
  injection h1 with h1
  exact h1.symm
theorem curT_stay {L : List St} (h : RisesT L) {left : Lit → Bool} {f : Int} {x : St} (hx : x ∈ L) (hf : f ≤ x.a) : curT L (fun z => left z && !z.sameKey (.int .i64 x.s)) f = curT L left f := by
  refine List.filter_congr fun y hy => ?_
  dsimp only
  rw [same_int]
  by_cases e : y.s = x.s
  · obtain rfl := eq_of_ids h hy hx e
    simp [hf]
  · simp [e]
theorem curT_go {L : List St} (h : RisesT L) {left : Lit → Bool} {f : Int} {x : St} (hx : x ∈ L) (hf : x.a < f) : curT L (fun z => left z && !z.sameKey (.int .i64 x.s)) f = (curT L left f).filter fun y => decide (y.s ≠ x.s) := by
  unfold curT
  rw [List.filter_filter]
  refine List.filter_congr fun y hy => ?_
  dsimp only
  rw [same_int]
  by_cases e : y.s = x.s
  · obtain rfl := eq_of_ids h hy hx e
    simp
    omega
  · simp [e]
theorem curT_le (L : List St) (left : Lit → Bool) (f : Int) : (curT L left f).length ≤ L.length := List.length_filter_le _ _
set_option maxRecDepth 200000 in
set_option maxHeartbeats 2000000 in
theorem ses_expire_any {w : World} {g b : Nat} {L : List St} (h : TbIs w g b L) (f : Int) : Calls Tryz.prog 150 #[.pointer (some ⟨g, 0, none⟩), .int .i64 f] w (TabPost w g b ((L.length : Int) - (expT L f).length) (expT L f)) := by
  have HM := hide (ses_made_any h.c0)
  have HH := hide h
  have hL8 := h.ok.len
  have HRI := hide h.ok.rises
  have HOK : Hid (TbOk (expT L f)) := hide (h.ok.exp f)
  clear h
  go_enter Tryz.func150, Tryz.ntmps150
  go_wp2_with fail
  refine HM.out.mono ?_
  rintro e X ⟨rfl, hcX⟩
  have hX := HH.out.chg hcX (fun e => e) (fun e => e)
  have c0 := hX.c0
  obtain ⟨D, hD⟩ := hX.map
  have hown := hD.map
  have HD := hide hD
  have HX := hide hX
  have HCX := hide hcX
  have hbX := hX.bl
  have hgX := hX.gl
  have hgb : g ≠ b := hX.ne
  clear hX hD hcX
  go_wp2_with (first | (at_range; refine wpList_range_own _ rfl _ 171 rfl 3 84 intK Tryz.underlying171 _ b L.length D rfl hown ?_; intro w0 hrg0 hg0 hs0) | go_in)
  go_frame
  have h0 : RdT D (curT L (Maps.has D) f) := by
    rw [curT_all fun x hx => by rw [HD.out.rd.keys, fndT_of HD.out.rd.rises.ids hx]; rfl]
    exact HD.out.rd
  have h0l : (curT L (Maps.has D) f).length = L.length := by
    rw [curT_all fun x hx => by rw [HD.out.rd.keys, fndT_of HD.out.rd.rises.ids hx]; rfl]
  have hc0' : Chg X w0 (fun k => k = b ∨ k = X.heap.size) := Chg.of_grown hg0 _ (fun k e => by cases e)
  have HRG := hide hrg0
  have HS0 := hide hs0
  have H0 := hide (And.intro h0 (And.intro h0l hc0'))
  clear hrg0 hg0 hs0 h0 h0l hc0' hown
  go_loopw [5] (fun n wr => ∃ left cnt D', wr.ranges Tryz.prog 3 heldA b X.heap.size L.length D' left cnt ∧ RdT D' (curT L left f) ∧ n = .int .i64 ((L.length - (curT L left f).length : Nat) : Int) ∧ Chg X wr (fun k => k = b ∨ k = X.heap.size) ∧ X.heap.size + 1 ≤ wr.heap.size) (fun _ wr => wr.rangeLeft b X.heap.size)
  case atStart => exact ⟨_, _, _, HRG.out, H0.out.1, by rw [H0.out.2.1, Nat.sub_self]; rfl, H0.out.2.2, by have := HS0.out; omega⟩
  case round =>
    obtain ⟨left, cnt, D', hrg, hrd, rfl, hch, hsz⟩ := hrel
    have hcl := curT_le L left f
    obtain ⟨m, hm⟩ : ∃ m, L.length - (curT L left f).length = m := ⟨_, rfl⟩
    rw [hm]
    have hm8 : m ≤ 8 := by omega
    have HMM := hide (And.intro hm hcl)
    have HRG2 := hide hrg
    have HRD := hide hrd
    have HCH := hide hch
    have c0r : wr.cell? ⟨g, 0, none⟩ = some (.map (some b)) := hch.cell c0 (by simp; omega)
    clear hrd hch hm hcl
    go_wp2_with (first | (at_next; refine wpList_next_ranges _ rfl _ rfl 3 intK heldA (Value.int .i64) Value.agg (fun key kl h => keyI_inv h) (fun v y h => (heldA_agg h).1) b X.heap.size L.length D' left cnt rfl hrg ?_ ?_) | go_in)
    · intro hc0 hl0
      have hda := curT_none (L := L) (f := f) hl0
      have HDA := hide hda
      clear hrg hda
      go_wp2
      go_ret
      have hmm := HMM.out
      have hrd := HRD.out
      rw [HDA.out] at hmm hrd
      have hn : (m : Int) = (L.length : Int) - (expT L f).length := by omega
      have hcb : Chg X wr (fun k => k = b) := ⟨HCH.out.os, HCH.out.tape, HCH.out.output, HCH.out.size, fun k hk hn => HCH.out.block k hk (fun e => by
        rcases e with e | e
        · exact hn e
        · omega)⟩
      have htm : TmIs wr b (expT L f) D' := ⟨by rw [← hrd.size]; exact bmap_tight HRG2.out.owns, hrd⟩
      exact ⟨by rw [← hn]; rfl, HX.out.with_ hcb htm HOK.out, (HCX.out.nope _).trans hcb fun k hk => .inl hk⟩
    · intro k c kl y1 ps w1 cnt1 hkey hlk hv hat hrg1 hlt hg1 hs1 hen
      obtain ⟨x, hxc, rfl, rfl, rfl⟩ := HRD.out.came (y := (y1, ps)) hkey hv hat
      have hx : x ∈ L := (List.mem_filter.1 hxc).1
      have HXC := hide (And.intro hxc hx)
      have hch1 : Chg X w1 (fun k => k = b ∨ k = X.heap.size) := HCH.out.trans (Chg.of_grown hg1 (fun k => k = b ∨ k = X.heap.size) (fun k e => by injection e with e; exact .inl (.inr e.symm))) fun k hk => .inl hk
      have c01 : w1.cell? ⟨g, 0, none⟩ = some (.map (some b)) := hch1.cell c0 (by simp; omega)
      have HRG1 := hide hrg1
      have HCH1 := hide hch1
      have HLT := hide hlt
      have HLK := hide hlk
      have HKEY := hide hkey
      have HS1 := hide hs1
      obtain ⟨s, q, a, ⟨e1, e2, e3, e4, e5, e6, e7, e8⟩⟩ := x
      unfold stC at *
      dsimp only at *
      clear hrg1 hch1 hrg hkey hv hat hlk hg1 hs1 hlt hx hxc
      obtain ⟨Z, hZ⟩ : ∃ Z, w1.alloc (.cells #[.int .i64 s, .int .i64 q, .int .i64 a, .int .i64 e1, .int .i64 e2, .int .i64 e3, .int .i64 e4, .int .i64 e5, .int .i64 e6, .int .i64 e7, .int .i64 e8] 84) = Z := ⟨_, rfl⟩
      have c0Z : Z.cell? ⟨g, 0, none⟩ = some (.map (some b)) := by rw [← hZ]; exact Lib.cell?_alloc_some _ c01
      have hrgZ := ranges_chgB HRG1.out (World.grownBy_alloc w1 (.cells #[.int .i64 s, .int .i64 q, .int .i64 a, .int .i64 e1, .int .i64 e2, .int .i64 e3, .int .i64 e4, .int .i64 e5, .int .i64 e6, .int .i64 e7, .int .i64 e8] 84) none) (by simp) (by simp)
      rw [hZ] at hrgZ
      have hcZ : Chg X Z (fun k => k = b ∨ k = X.heap.size) := by rw [← hZ]; exact HCH1.out.alloc _
      have hsZ : X.heap.size + 1 ≤ Z.heap.size := by rw [← hZ]; have := HS1.out; simp; omega
      have z2 : Z.cell? ⟨w1.heap.size, 2, none⟩ = some (.int .i64 a) := by rw [← hZ, World.cell?_alloc_new]; rfl
      have HRZ := hide hrgZ
      have HZZ := hide (And.intro hcZ hsZ)
      clear hrgZ hcZ hsZ
      by_cases haf : a < f
      · have hgo := curT_go HRI.out (left := left) HXC.out.2 haf
        have hlen := del_filter (HRD.out.rises) HXC.out.1
        have hrd2 := HRD.out.del (HRG2.out.owns.tidy intK) HXC.out.1
        rw [← hgo] at hlen hrd2
        dsimp only at hlen hrd2 hgo
        have HG := hide (And.intro hlen hrd2)
        have hrgZ := HRZ.out
        clear hgo hlen hrd2
        go_wp2_with (at_delete; refine wpList_delete_ranges _ rfl _ _ 171 3 rfl 84 intK Tryz.underlying171 heldA b X.heap.size L.length D' _ cnt1 rfl hrgZ _ _ rfl HKEY.out ?_; intro w2 cnt2 hrg2 hle2 hturn2)
        rw [Maps.strike_twice] at hrg2
        have HR2 := hide hrg2
        have HLE := hide hle2
        have hg2 := hturn2.grown
        have hc2 : Chg X w2 (fun k => k = b ∨ k = X.heap.size) := HZZ.out.1.trans (Chg.of_grown hg2 (fun k => k = b ∨ k = X.heap.size) (fun k e => by injection e with e; exact .inl (.inl e.symm))) fun k hk => .inl hk
        have hs2 : X.heap.size + 1 ≤ w2.heap.size := Nat.le_trans HZZ.out.2 hg2.size
        have HC2 := hide (And.intro hc2 hs2)
        have hrgZ := trivial
        clear hrg2 hle2 hturn2 hg2 hc2 hs2
        go_wp2
        go_roundw
        case rel => exact ⟨_, _, _, HR2.out, HG.out.2, (by have h1 := HG.out.1; have h2 := HMM.out; have e : L.length - (curT L (fun z => left z && !z.sameKey (Lit.int .i64 s)) f).length = m + 1 := by omega
                                                           rw [e]; go_num), HC2.out.1, HC2.out.2⟩
        case measure => rw [HR2.out.left_eq, HRG2.out.left_eq]; have := HLE.out; have := HLT.out; omega
      · have hst := curT_stay HRI.out (left := left) HXC.out.2 (show f ≤ a by omega)
        dsimp only at hst
        have HST := hide hst
        clear hst
        go_wp2
        go_roundw
        case rel => exact ⟨_, _, _, HRZ.out, by rw [HST.out]; exact HRD.out, by rw [HST.out, HMM.out.1], HZZ.out.1, HZZ.out.2⟩
        case measure => rw [HRZ.out.left_eq, HRG2.out.left_eq]; exact HLT.out
end Go.Proofs.YtionbmlicmibgaaGreatDoor
