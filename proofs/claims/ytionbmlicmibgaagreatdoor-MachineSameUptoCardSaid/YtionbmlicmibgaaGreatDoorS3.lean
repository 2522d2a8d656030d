/- Several texts made one: SpSort FRefRing FTree SpPush FUnder SpPush2 FBr FUnfold FPlain. -/
import Derived.Sort.Statements
import Derived.Maps.OwnSet
import Derived.Test.YtionbmlicmibgaaGreatDoorS1
import Derived.Test.YtionbmlicmibgaaGreatDoorS2
/- The order of spans, plainly. -/
namespace Go.Proofs.YtionbmlicmibgaaGreatDoor
set_option linter.unusedVariables false
set_option linter.unusedSimpArgs false
open Go.Sort

/-- A comparison by a sign: it may be turned, what is like something stands as that does, and it goes on. -/
structure Cmp {α : Type} (c : α → α → Int) : Prop where
 anti : ∀ x y, c y x = -c x y
 like : ∀ x y, c x y = 0 → ∀ z, c x z = c y z
 on : ∀ x y z, c x y < 0 → c y z < 0 → c x z < 0

def lexC {α : Type} (c d : α → α → Int) (x y : α) : Int := if c x y ≠ 0 then c x y else d x y
theorem Cmp.like' {α : Type} {c : α → α → Int} (h : Cmp c) {y z : α} (e : c y z = 0) (x : α) : c x y = c x z := by
 have h1 := h.like y z e x
 have h2 := h.anti x y
 have h3 := h.anti x z
 omega
theorem Cmp.lex {α : Type} {c d : α → α → Int} (hc : Cmp c) (hd : Cmp d) : Cmp (lexC c d) where
 anti x y := by
  have h1 := hc.anti x y
  have h2 := hd.anti x y
  unfold lexC
  by_cases h : c x y = 0
  ·rw [if_neg (by omega), if_neg (by omega)]
   exact h2
  ·rw [if_pos (by omega), if_pos (by omega)]
   exact h1
 like x y h z := by
  unfold lexC at *
  by_cases h0 : c x y = 0
  ·rw [if_neg (by omega)] at h
   rw [hc.like x y h0 z, hd.like x y h z]
  ·rw [if_pos h0] at h
   exact absurd h h0
 on x y z h1 h2 := by
  unfold lexC at *
  by_cases ha : c x y = 0
  ·rw [if_neg (by omega)] at h1
   have e1 := hc.like x y ha z
   by_cases hb : c y z = 0
   ·rw [if_neg (by omega)] at h2
    rw [if_neg (by omega)]
    exact hd.on x y z h1 h2
   ·rw [if_pos hb] at h2
    rw [if_pos (by omega)]
    omega
  ·rw [if_pos ha] at h1
   by_cases hb : c y z = 0
   ·have e1 := hc.like' hb x
    rw [if_pos (by omega)]
    omega
   ·rw [if_pos hb] at h2
    have := hc.on x y z h1 h2
    rw [if_pos (by omega)]
    exact this

theorem cmpInt (f : Sp → Int) : Cmp fun x y => Lib.compareInt (f x) (f y) where
 anti x y := by unfold Lib.compareInt; (repeat' split) <;> omega
 like x y h z := by
  have : f x = f y := by
   unfold Lib.compareInt at h
   revert h
   (repeat' split) <;> intro h <;> omega
  rw [this]
 on x y z h1 h2 := by
  unfold Lib.compareInt at *
  revert h1 h2
  (repeat' split) <;> intro h1 h2 <;> omega

theorem compareBytes_anti : ∀ a b : List UInt8, Lib.compareBytes b a = -Lib.compareBytes a b
 | [], [] => rfl
 | [], _ :: _ => rfl
 | _ :: _, [] => rfl
 | x :: a, y :: b => by
  have ih := compareBytes_anti a b
  simp only [Lib.compareBytes]
  by_cases h1 : x < y
  ·have h2 : ¬ y < x := fun h => UInt8.lt_irrefl _ (UInt8.lt_trans h h1)
   simp [h1, h2]
  ·by_cases h2 : y < x
   ·simp [h1, h2]
   ·simp [h1, h2, ih]
theorem compareBytes_eq : ∀ {a b : List UInt8}, Lib.compareBytes a b = 0 → a = b
 | [], [], _ => rfl
 | [], _ :: _, h => by simp [Lib.compareBytes] at h
 | _ :: _, [], h => by simp [Lib.compareBytes] at h
 | x :: a, y :: b, h => by
  simp only [Lib.compareBytes] at h
  by_cases h1 : x < y
  ·simp [h1] at h
  ·by_cases h2 : y < x
   ·simp [h1, h2] at h
   ·simp only [h1, h2, if_false] at h
    have hxy : x = y := UInt8.le_antisymm (UInt8.not_lt.1 h2) (UInt8.not_lt.1 h1)
    rw [hxy, compareBytes_eq h]
theorem compareBytes_on : ∀ {a b c : List UInt8}, Lib.compareBytes a b < 0 → Lib.compareBytes b c < 0 → Lib.compareBytes a c < 0
 | [], [], _, h, _ => by simp [Lib.compareBytes] at h
 | [], _ :: _, [], _, h => by simp [Lib.compareBytes] at h
 | [], _ :: _, _ :: _, _, _ => by simp [Lib.compareBytes]
 | _ :: _, [], _, h, _ => by simp [Lib.compareBytes] at h
 | _ :: _, _ :: _, [], _, h => by simp [Lib.compareBytes] at h
 | x :: a, y :: b, z :: c, h1, h2 => by
  simp only [Lib.compareBytes] at h1 h2 ⊢
  by_cases hxy : x < y
  ·by_cases hyz : y < z
   ·simp [UInt8.lt_trans hxy hyz]
   ·by_cases hzy : z < y
    ·simp [hyz, hzy] at h2
    ·have e : y = z := UInt8.le_antisymm (UInt8.not_lt.1 hzy) (UInt8.not_lt.1 hyz)
     subst e
     simp [hxy]
  ·by_cases hyx : y < x
   ·simp [hxy, hyx] at h1
   ·have e : x = y := UInt8.le_antisymm (UInt8.not_lt.1 hyx) (UInt8.not_lt.1 hxy)
    subst e
    simp only [hxy, if_false] at h1
    by_cases hyz : x < z
    ·simp [hyz]
    ·by_cases hzy : z < x
     ·simp [hyz, hzy] at h2
     ·simp only [hyz, hzy, if_false] at h2 ⊢
      exact compareBytes_on h1 h2
theorem cmpName : Cmp fun x y : Sp => Lib.compareBytes x.nl y.nl where
 anti x y := compareBytes_anti _ _
 like x y h z := by rw [compareBytes_eq h]
 on x y z h1 h2 := compareBytes_on h1 h2

/-- Which of two spans stands ahead: below 0, 0, above it. -/
def cmpS : Sp → Sp → Int :=
 lexC (fun x y => Lib.compareInt x.t y.t) (lexC (fun x y => Lib.compareInt x.s y.s) (lexC (fun x y => Lib.compareInt x.i y.i) (lexC (fun x y => Lib.compareInt x.p y.p) (lexC (fun x y => Lib.compareInt x.e y.e) fun x y => Lib.compareBytes x.nl y.nl))))
theorem cmpS_cmp : Cmp cmpS := (cmpInt _).lex ((cmpInt _).lex ((cmpInt _).lex ((cmpInt _).lex ((cmpInt _).lex cmpName))))
theorem compareInt_eq {a b : Int} (h : Lib.compareInt a b = 0) : a = b := by
 unfold Lib.compareInt at h
 revert h
 (repeat' split) <;> intro h <;> omega
theorem lexC_eq {α : Type} {c d : α → α → Int} {x y : α} (h : lexC c d x y = 0) : c x y = 0 ∧ d x y = 0 := by
 unfold lexC at h
 split at h
 ·rename_i h0
  exact absurd h h0
 ·rename_i h0
  exact ⟨by omega, h⟩
theorem cmpS_eq {x y : Sp} (h : cmpS x y = 0) : x = y := by
 obtain ⟨a, h⟩ := lexC_eq h
 obtain ⟨b, h⟩ := lexC_eq h
 obtain ⟨c, h⟩ := lexC_eq h
 obtain ⟨d, h⟩ := lexC_eq h
 obtain ⟨e, h⟩ := lexC_eq h
 replace a := compareInt_eq a
 replace b := compareInt_eq b
 replace c := compareInt_eq c
 replace d := compareInt_eq d
 replace e := compareInt_eq e
 replace h := compareBytes_eq h
 obtain ⟨t, i, p, s, en, n⟩ := x
 obtain ⟨t', i', p', s', en', n'⟩ := y
 simp only [Sp.nl] at a b c d e h
 have hn : n = n' := by
  obtain ⟨⟨u⟩⟩ := n
  obtain ⟨⟨v⟩⟩ := n'
  simp only at h
  rw [h]
 subst a b c d e hn
 rfl
theorem cmpS_self (x : Sp) : cmpS x x = 0 := by
 have := cmpS_cmp.anti x x
 omega
/-- Whether one stands ahead of another one. -/
def ltS (x y : Sp) : Bool := decide (cmpS x y < 0)
theorem ltS_swo : SWO ltS where
 irrefl x := by unfold ltS; rw [cmpS_self]; rfl
 trans x y z h1 h2 := by
  unfold ltS at *
  rw [decide_eq_true_eq] at *
  exact cmpS_cmp.on x y z h1 h2
 ntrans x y z h1 h2 := by
  unfold ltS at *
  rw [decide_eq_false_iff_not] at *
  intro h3
  have a1 := cmpS_cmp.anti x y
  by_cases h0 : cmpS x y = 0
  ·have := cmpS_cmp.like x y h0 z
   omega
  ·have := cmpS_cmp.on y x z (by omega) h3
   omega
theorem ltS_tot (x y : Sp) (h1 : ltS x y = false) (h2 : ltS y x = false) : x = y := by
 unfold ltS at *
 rw [decide_eq_false_iff_not] at *
 have := cmpS_cmp.anti x y
 exact cmpS_eq (by omega)
theorem ltS_asymm {x y : Sp} (h : ltS x y = true) : ltS y x = false := by
 unfold ltS at *
 rw [decide_eq_true_eq] at h
 rw [decide_eq_false_iff_not]
 have := cmpS_cmp.anti x y
 omega
/-- Spans in their order. -/
def sortS (l : List Sp) : List Sp := l.mergeSort fun x y => !ltS y x
theorem leS_trans (a b c : Sp) (h1 : (!ltS b a) = true) (h2 : (!ltS c b) = true) : (!ltS c a) = true := by
 rw [Bool.not_eq_true'] at *
 exact ltS_swo.ntrans c b a h2 h1
theorem leS_total (a b : Sp) : ((!ltS b a) || !ltS a b) = true := by
 cases h : ltS b a
 ·rfl
 ·rw [ltS_asymm h]
  rfl
theorem sortS_pair (l : List Sp) : (sortS l).Pairwise fun x y => (!ltS y x) = true := List.pairwise_mergeSort leS_trans leS_total l
theorem sortS_perm (l : List Sp) : (sortS l).Perm l := List.mergeSort_perm l _
theorem sorted_one {l m : List Sp} (hl : l.Pairwise fun x y => (!ltS y x) = true) (hm : m.Pairwise fun x y => (!ltS y x) = true) (hp : l.Perm m) : l = m := by
 refine List.Perm.eq_of_pairwise (le := fun x y => (!ltS y x) = true) (fun a b _ _ h1 h2 => ?_) hl hm hp
 rw [Bool.not_eq_true'] at h1 h2
 exact ltS_tot a b h2 h1
theorem sortS_of_perm {l m : List Sp} (h : l.Perm m) : sortS l = sortS m :=
 sorted_one (sortS_pair l) (sortS_pair m) (((sortS_perm l).trans h).trans (sortS_perm m).symm)
theorem sortS_length (l : List Sp) : (sortS l).length = l.length := (sortS_perm l).length_eq

/-! ## Each one at its place -/
end Go.Proofs.YtionbmlicmibgaaGreatDoor
/- The document's ring: as many steps up as there are spans are enough. -/
namespace Go.Proofs.YtionbmlicmibgaaGreatDoor
set_option linter.unusedVariables false
set_option linter.unusedSimpArgs false
open Go.RowKit

end Go.Proofs.YtionbmlicmibgaaGreatDoor
/- A forest's branches, plainly: each top with all that stands beneath it. -/
namespace Go.Proofs.YtionbmlicmibgaaGreatDoor
set_option linter.unusedVariables false
set_option linter.unusedSimpArgs false
open Go.RowKit

/-- A branch. -/
structure Br where
 d : Int
 o : Bool
 s : Sp
deriving DecidableEq
instance : Inhabited Br := ⟨⟨0, false, default⟩⟩

/-- Those whose parent is k. -/
def kids (S : List Sp) (k : Int) : List Sp := S.filter fun x => x.p == k
/-- Beneath a span there is nothing deeper than n. -/
def Deep (S : List Sp) : Nat → Sp → Prop
 | 0, t => kids S t.i = []
 | n + 1, t => ∀ c ∈ kids S t.i, Deep S n c
theorem Deep.mono {S : List Sp} : ∀ {n m : Nat} {t : Sp}, n ≤ m → Deep S n t → Deep S m t
 | 0, 0, _, _, h => h
 | 0, m + 1, t, _, h => by
  intro c hc
  rw [show kids S t.i = [] from h] at hc
  simp at hc
 | n + 1, 0, _, hn, _ => by omega
 | n + 1, m + 1, t, hn, h => fun c hc => Deep.mono (by omega) (h c hc)
/-- Spans of which no two have one ID, none of an ID below 1, none above itself. -/
structure Tidy (S : List Sp) (r : Int → Nat) : Prop where
 ids : S.Pairwise fun x y => x.i ≠ y.i
 rises : Ranks S r
 pos : ∀ x ∈ S, 1 ≤ x.i
theorem Tidy.zero {S : List Sp} {r : Int → Nat} (h : Tidy S r) : fnd S 0 = none := by
 rw [fnd_none]
 intro x hx
 have := h.pos x hx
 omega
/-- Each one that is not at the top stands beneath the nearest one ahead that is less deep. -/
def Near (a l : List Br) : Prop := ∀ (a1 : List Br) (x : Br) (b : List Br), l = a1 ++ x :: b → 0 < x.d → ∃ y, (a ++ a1).reverse.find? (fun z => decide (z.d < x.d)) = some y ∧ y.d = x.d - 1 ∧ y.s.i = x.s.p
theorem Near.nil (a : List Br) : Near a [] := fun a1 x b h => by simp at h
end Go.Proofs.YtionbmlicmibgaaGreatDoor
/- A span behind others: append. -/
namespace Go.Proofs.YtionbmlicmibgaaGreatDoor
set_option linter.unusedVariables false
set_option linter.unusedSimpArgs false
open Go.RowKit

theorem Tryz.infoSp : (Tryz.prog.info? 30).map (fun i => (i.zero, i.size, i.bytes)) = some (some (.agg #[.int .i64 0, .int .i64 0, .int .i64 0, .int .i64 0, .int .i64 0, .string ⟨#[]⟩]), 6, 56) := by kernel_rfl

/-- One more span behind others: 'l = append(l, s)'. -/
theorem run_push {B : Nat} {w : World} {v : Value} {l : List Sp} (h : OwnS B w v l) (x : Sp) (hB : B ≤ w.heap.size) (hs : l.length ≤ 1100000) :
  ∃ v' w', (Builtin.append_ #[22, 22] 22 #[v, .slice (some ⟨w.heap.size, 0, none⟩) 1 1]).run Tryz.prog (w.alloc (.cells #[.int .i64 x.t, .int .i64 x.i, .int .i64 x.p, .int .i64 x.s, .int .i64 x.e, .string x.n] 30)) = .ok v' w' ∧ OwnS B w' v' (l ++ [x]) ∧ Below B w w' ∧ w.grownBy w' v.ownBlock := by
 obtain ⟨i0, hi0, hz0, hz1, hz2⟩ := info_parts Tryz.infoSp
 have ho' := World.ownsRow.alloc h (.cells #[.int .i64 x.t, .int .i64 x.i, .int .i64 x.p, .int .i64 x.s, .int .i64 x.e, .string x.n] 30)
 obtain ⟨v', w', hr, h1, h2, _, h4⟩ := run_append_own_at (P := Tryz.prog) (w.alloc (.cells #[.int .i64 x.t, .int .i64 x.i, .int .i64 x.p, .int .i64 x.s, .int .i64 x.e, .string x.n] 30)) B 22 22 30 i0 _ 6 56 Tryz.underlying22 hi0 hz0 hz1 hz2 rfl (by decide) v l.length (l.flatMap spC) ho' ⟨w.heap.size, 0, none⟩ 1 1 (spC x) rfl
  (fun j u hj => by
   rw [add_lit0, Nat.zero_add, cell_of_row _ w.heap.size j _ 30 (0, 0) (heap_alloc_new w _)]
   simpa [spC] using hj)
  (spC_one x) (by simp only [maxLen]; omega) (by omega) (by simp; omega)
 have hb0 : Below B w (w.alloc (.cells #[.int .i64 x.t, .int .i64 x.i, .int .i64 x.p, .int .i64 x.s, .int .i64 x.e, .string x.n] 30)) := (Below.refl _ _).alloc hB _
 refine ⟨v', w', hr, ?_, hb0.grown h2 (by simp; omega) fun k hk => (World.ownsRow.lt h k hk).1, ?_⟩
 ·have : (l ++ [x]).flatMap spC = l.flatMap spC ++ spC x := by simp
  unfold OwnS
  rw [this, List.length_append]
  exact h1
 ·refine ⟨h2.os, h2.tape, h2.output, ?_, fun k hk hne => ?_⟩
  ·have := h2.size
   simp at this
   omega
  ·rw [h2.block k (by simp; omega) hne]
   exact heap_alloc_old _ _ hk

theorem wpList_push {w : World} {ops : Array Oper} {rest : List Oper} {o : Oper} {a : Act} {Q : Exit → Act → World → Prop} (hgd : o.guard = none) (s t : Operand)
  (ho : o.op = .call { callee := .builtin .append, args := #[s, t], argTypes := #[22, 22] }) (hty : o.type = 22) {B : Nat} {v : Value} {l : List Sp} (x : Sp)
  (hs : a.eval s = v) (ht : a.eval t = .slice (some ⟨w.heap.size, 0, none⟩) 1 1) (h : OwnS B w v l) (hB : B ≤ w.heap.size) (hn : l.length ≤ 1100000)
  (hK : ∀ v' w', OwnS B w' v' (l ++ [x]) → Below B w w' → w.grownBy w' v.ownBlock → wpList Tryz.prog ops Q rest (a.put o.dst v') w') : wpList Tryz.prog ops Q (o :: rest) a (w.alloc (.cells #[.int .i64 x.t, .int .i64 x.i, .int .i64 x.p, .int .i64 x.s, .int .i64 x.e, .string x.n] 30)) := by
 obtain ⟨v', w', hr, h1, h2, h3⟩ := run_push h x hB hn
 exact Lib.wpList_append_run_sl _ hgd s t 22 ho v _ hs ht (by rw [hty]; exact hr) (hK v' w' h1 h2 h3)
end Go.Proofs.YtionbmlicmibgaaGreatDoor
/- What stands beneath whom: a map of slices of spans, each in a block of its own. Branches in memory. -/
namespace Go.Proofs.YtionbmlicmibgaaGreatDoor
set_option linter.unusedVariables false
set_option linter.unusedSimpArgs false
open Go.RowKit

/-- How a slice reads: as itself. -/
def heldS : Value → Option (DataW Value × List MemPlace)
 | .slice p n c => some (.held (.slice p n c), [])
 | _ => none
theorem heldS_inv {v u : Value} {ps : List MemPlace} (h : heldS v = some (.held u, ps)) : v = u := by
 cases v <;> simp [heldS] at h
 exact h.1
theorem zeroSps (w : World) : (zeroValue 22).run Tryz.prog w = .ok (.slice none 0 0) w := by kernel_rfl

/-- Beneath k stand U k: a map of slices, each in a block of its own from B on. -/
structure UndIs (w : World) (B b : Nat) (U : Int → List Sp) (V : Int → Value) (D : DataW Value) : Prop where
 map : w.ownsMap Tryz.prog 3 heldS b (Maps.size D) D
 vals : ∀ k, Maps.has D (.int .i64 k) = true → (∀ z, D.atKey (.int .i64 k) z = .held (V k)) ∧ OwnS B w (V k) (U k)
 none_ : ∀ k, Maps.has D (.int .i64 k) = false → U k = []
 blk : ∀ k i, Maps.has D (.int .i64 k) = true → (V k).ownBlock = some i → i ≠ b
 apart : ∀ k k' i, Maps.has D (.int .i64 k) = true → Maps.has D (.int .i64 k') = true → k ≠ k' → (V k).ownBlock = some i → (V k').ownBlock ≠ some i
/-- The block i is none of the map's. -/
def UndOff (b : Nat) (V : Int → Value) (D : DataW Value) (i : Nat) : Prop := i ≠ b ∧ ∀ k, Maps.has D (.int .i64 k) = true → (V k).ownBlock ≠ some i

theorem UndIs.drewN {w : World} {B b : Nat} {U : Int → List Sp} {V : Int → Value} {D : DataW Value} (h : UndIs w B b U V D) (q : Nat) : UndIs (w.drewN q) B b U V D := ⟨h.map, h.vals, h.none_, h.blk, h.apart⟩
theorem UndIs.grown {w w' : World} {B b : Nat} {U : Int → List Sp} {V : Int → Value} {D : DataW Value} {row : Option Nat} (h : UndIs w B b U V D) (hg : w.grownBy w' row) (ho : ∀ i, row = some i → UndOff b V D i) : UndIs w' B b U V D :=
 ⟨h.map.kept hg fun e => (ho b e.symm).1 rfl, fun k hk => ⟨(h.vals k hk).1, (h.vals k hk).2.grown hg (by
  rcases hv : (V k).ownBlock with _ | i
  ·exact .inl rfl
  ·exact .inr fun e => (ho i e.symm).2 k hk hv)⟩, h.none_, h.blk, h.apart⟩
theorem UndIs.lt {w : World} {B b : Nat} {U : Int → List Sp} {V : Int → Value} {D : DataW Value} (h : UndIs w B b U V D) : b < w.heap.size := h.map.lt
theorem UndIs.off_new {w : World} {B b : Nat} {U : Int → List Sp} {V : Int → Value} {D : DataW Value} (h : UndIs w B b U V D) {i : Nat} (hi : w.heap.size ≤ i) : UndOff b V D i :=
 ⟨by have := h.lt; omega, fun k hk e => by have := ((h.vals k hk).2.lt i e).2; omega⟩
/-- 'under[k]'. -/
theorem UndIs.look {w : World} {B b : Nat} {U : Int → List Sp} {V : Int → Value} {D : DataW Value} (h : UndIs w B b U V D) {k : Int} (hk : (Lit.int .i64 k).wf = true) :
  ∃ v, (∀ q, (Instr.lookup 262 (.map (some b)) (.int .i64 k) false).run Tryz.prog (w.drewN q) = .ok v (w.drewN q)) ∧ OwnS B w v (U k) ∧ (Maps.has D (.int .i64 k) = true ∧ v = V k ∨ Maps.has D (.int .i64 k) = false ∧ v = .slice none 0 0) := by
 cases hh : Maps.has D (.int .i64 k) with
 | false =>
  refine ⟨.slice none 0 0, fun q => ?_, by rw [h.none_ k hh]; exact OwnS.nil _ _, .inr ⟨rfl, rfl⟩⟩
  have hmap : (w.drewN q).ownsMap Tryz.prog 3 heldS b (Maps.size D) D := h.map
  obtain ⟨v2, ps2, hrun2, hv2⟩ := hmap.lookup intK Tryz.underlying262 (zeroSps (w.drewN q)) (zd := .held (.slice none 0 0)) (zp := []) rfl (keyI hk)
  rw [Maps.atKey_of_not_has hh] at hv2
  obtain rfl := heldS_inv hv2
  exact hrun2
 | true =>
  refine ⟨V k, fun q => ?_, (h.vals k hh).2, .inl ⟨rfl, rfl⟩⟩
  have hmap : (w.drewN q).ownsMap Tryz.prog 3 heldS b (Maps.size D) D := h.map
  obtain ⟨v2, ps2, hrun2, hv2⟩ := hmap.lookup intK Tryz.underlying262 (zeroSps (w.drewN q)) (zd := .held (.slice none 0 0)) (zp := []) rfl (keyI hk)
  rw [(h.vals k hh).1] at hv2
  obtain rfl := heldS_inv hv2
  exact hrun2

end Go.Proofs.YtionbmlicmibgaaGreatDoor
/- Spans behind others: append of many. -/
namespace Go.Proofs.YtionbmlicmibgaaGreatDoor
set_option linter.unusedVariables false
set_option linter.unusedSimpArgs false
open Go.RowKit

end Go.Proofs.YtionbmlicmibgaaGreatDoor
/- Branches in memory: many as a slice; one more behind others. -/
namespace Go.Proofs.YtionbmlicmibgaaGreatDoor
set_option linter.unusedVariables false
set_option linter.unusedSimpArgs false
open Go.RowKit

/-- A branch's cells. -/
def brC (x : Br) : List Value := [.int .i64 x.d, .bool x.o, .int .i64 x.s.t, .int .i64 x.s.i, .int .i64 x.s.p, .int .i64 x.s.s, .int .i64 x.s.e, .string x.s.n]
/-- A span's cells at a place. -/
def BrAt (w : World) (g o : Nat) (x : Br) : Prop := ∀ (k : Nat) u, (brC x)[k]? = some u → w.cell? ⟨g, o + k, none⟩ = some u
theorem BrAt.c0 {w : World} {g o : Nat} {x : Br} (h : BrAt w g o x) : w.cell? ⟨g, o, none⟩ = some (.int .i64 x.d) := h 0 _ rfl
theorem BrAt.c1 {w : World} {g o : Nat} {x : Br} (h : BrAt w g o x) : w.cell? ⟨g, o + 1, none⟩ = some (.bool x.o) := h 1 _ rfl
theorem BrAt.c2 {w : World} {g o : Nat} {x : Br} (h : BrAt w g o x) : w.cell? ⟨g, o + 2, none⟩ = some (.int .i64 x.s.t) := h 2 _ rfl
theorem BrAt.c3 {w : World} {g o : Nat} {x : Br} (h : BrAt w g o x) : w.cell? ⟨g, o + 3, none⟩ = some (.int .i64 x.s.i) := h 3 _ rfl
theorem BrAt.c4 {w : World} {g o : Nat} {x : Br} (h : BrAt w g o x) : w.cell? ⟨g, o + 4, none⟩ = some (.int .i64 x.s.p) := h 4 _ rfl
theorem BrAt.c5 {w : World} {g o : Nat} {x : Br} (h : BrAt w g o x) : w.cell? ⟨g, o + 5, none⟩ = some (.int .i64 x.s.s) := h 5 _ rfl
theorem BrAt.c6 {w : World} {g o : Nat} {x : Br} (h : BrAt w g o x) : w.cell? ⟨g, o + 6, none⟩ = some (.int .i64 x.s.e) := h 6 _ rfl
theorem BrAt.c7 {w : World} {g o : Nat} {x : Br} (h : BrAt w g o x) : w.cell? ⟨g, o + 7, none⟩ = some (.string x.s.n) := h 7 _ rfl
theorem BrAt.lt {w : World} {g o : Nat} {x : Br} (h : BrAt w g o x) : g < w.heap.size := lt_of_cell h.c0
theorem BrAt.below {w w' : World} {g o : Nat} {x : Br} (h : BrAt w g o x) (hb : Below w.heap.size w w') : BrAt w' g o x := fun k u hk => (hb.cell (lt_of_cell (h k u hk))).trans (h k u hk)
theorem BrAt.grown {w w' : World} {g o : Nat} {x : Br} {row : Option Nat} (h : BrAt w g o x) (hg : w.grownBy w' row) (hne : row ≠ some g) : BrAt w' g o x := fun k u hk => hg.cell (h k u hk) fun e => hne e.symm
theorem BrAt.drewN {w : World} {g o : Nat} {x : Br} (h : BrAt w g o x) (n : Nat) : BrAt (w.drewN n) g o x := h
theorem BrAt.one {w : World} {g o : Nat} {x y : Br} (h : BrAt w g o x) (h' : BrAt w g o y) : x = y := by
 obtain ⟨dd, oo, a, b, c, d, e, f⟩ := x
 obtain ⟨dd', oo', a', b', c', d', e', f'⟩ := y
 have q0 := h.c0.symm.trans h'.c0
 have q1 := h.c1.symm.trans h'.c1
 have q2 := h.c2.symm.trans h'.c2
 have q3 := h.c3.symm.trans h'.c3
 have q4 := h.c4.symm.trans h'.c4
 have q5 := h.c5.symm.trans h'.c5
 have q6 := h.c6.symm.trans h'.c6
 have q7 := h.c7.symm.trans h'.c7
 simp only [Option.some.injEq, Value.int.injEq, Value.string.injEq, Value.bool.injEq, true_and] at q0 q1 q2 q3 q4 q5 q6 q7
 subst q0 q1 q2 q3 q4 q5 q6 q7
 rfl

/-- The slice v reads as the spans l. -/
def Brs (w : World) (v : Value) (l : List Br) : Prop :=
 ∃ (p : Option Addr) (cap : Nat), v = .slice p l.length cap ∧ l.length ≤ cap ∧ cap ≤ maxLen ∧ (p = none → cap = 0) ∧
  (0 < l.length → ∃ g o, p = some ⟨g, o, none⟩ ∧ ∀ (i : Nat) x, l[i]? = some x → BrAt w g (o + i * 8) x)
theorem Brs.nil (w : World) : Brs w (.slice none 0 0) [] := ⟨none, 0, rfl, Nat.le_refl _, by simp [maxLen], fun _ => rfl, fun h => absurd h (Nat.lt_irrefl _)⟩
theorem Brs.none_ (w : World) (p : Option Addr) (c : Nat) (hc : c ≤ maxLen) (hp : p = none → c = 0) : Brs w (.slice p 0 c) [] := ⟨p, c, rfl, Nat.zero_le _, hc, hp, fun h => absurd h (Nat.lt_irrefl _)⟩
theorem Brs.sl {w : World} {v : Value} {l : List Br} (h : Brs w v l) : ∃ p n c, v = .slice p n c := by
 obtain ⟨p, c, e, _⟩ := h
 exact ⟨p, _, c, e⟩
theorem Brs.len {w : World} {p : Option Addr} {n c : Nat} {l : List Br} (h : Brs w (.slice p n c) l) : n = l.length ∧ n ≤ c ∧ c ≤ maxLen := by
 obtain ⟨p', c', e, hl, hm, _⟩ := h
 injection e with _ e2 e3
 subst e2 e3
 exact ⟨rfl, hl, hm⟩
theorem Brs.at_ {w : World} {p : Option Addr} {n c : Nat} {l : List Br} (h : Brs w (.slice p n c) l) (hn : 0 < n) : ∃ g o, p = some ⟨g, o, none⟩ ∧ ∀ (i : Nat) x, l[i]? = some x → BrAt w g (o + i * 8) x := by
 obtain ⟨p', c', e, _, _, _, hx⟩ := h
 injection e with e1 e2 e3
 subst e1 e2
 exact hx hn
theorem Brs.below {w w' : World} {v : Value} {l : List Br} (h : Brs w v l) (hb : Below w.heap.size w w') : Brs w' v l := by
 obtain ⟨p, c, rfl, hl, hm, hn, hx⟩ := h
 refine ⟨p, c, rfl, hl, hm, hn, fun h0 => ?_⟩
 obtain ⟨g, o, e, hx⟩ := hx h0
 exact ⟨g, o, e, fun i x hi => (hx i x hi).below hb⟩
theorem Brs.grown {w w' : World} {v : Value} {l : List Br} {row : Option Nat} (h : Brs w v l) (hg : w.grownBy w' row) (hne : l = [] ∨ ∀ k, v.ownBlock = some k → row ≠ some k) : Brs w' v l := by
 obtain ⟨p, c, rfl, hl, hm, hn, hx⟩ := h
 refine ⟨p, c, rfl, hl, hm, hn, fun h0 => ?_⟩
 obtain ⟨g, o, e, hx⟩ := hx h0
 refine ⟨g, o, e, fun i x hi => (hx i x hi).grown hg ?_⟩
 rcases hne with rfl | hne
 ·simp at h0
 ·exact hne g (by rw [e]; rfl)
theorem Brs.drewN {w : World} {v : Value} {l : List Br} (h : Brs w v l) (n : Nat) : Brs (w.drewN n) v l := h
theorem Brs.one {w : World} {v : Value} {l m : List Br} (h : Brs w v l) (h' : Brs w v m) : l = m := by
 obtain ⟨p, c, rfl, _, _, _, hx⟩ := h
 obtain ⟨p', c', e, _, _, _, hx'⟩ := h'
 injection e with e1 e2 e3
 subst e1
 apply List.ext_getElem? 
 intro i
 by_cases hi : i < l.length
 ·have h0 : 0 < l.length := by omega
  obtain ⟨g, o, e, hx⟩ := hx h0
  obtain ⟨g', o', e', hx'⟩ := hx' (by omega)
  rw [e] at e'
  injection e' with e'
  injection e' with e1 e2
  subst e1 e2
  have hi' : i < m.length := by omega
  have q1 := List.getElem?_eq_getElem hi
  have q2 := List.getElem?_eq_getElem hi'
  rw [q1, q2, (hx i _ q1).one (hx' i _ q2)]
 ·rw [List.getElem?_eq_none (by omega), List.getElem?_eq_none (by omega)]

/-- The slice v reads as the spans l, in a block of its own from B on; or it is nil. -/
def OwnB (B : Nat) (w : World) (v : Value) (l : List Br) : Prop := w.ownsRow B 90 8 v l.length (l.flatMap brC)
theorem OwnB.nil (B : Nat) (w : World) : OwnB B w (.slice none 0 0) [] := World.ownsRow_nil _ _ _ _
theorem OwnB.lt {B : Nat} {w : World} {v : Value} {l : List Br} (h : OwnB B w v l) : ∀ k, v.ownBlock = some k → B ≤ k ∧ k < w.heap.size := World.ownsRow.lt h
theorem OwnB.below {B : Nat} {w w' : World} {v : Value} {l : List Br} (h : OwnB B w v l) (hb : Below w.heap.size w w') : OwnB B w' v l := World.ownsRow.kept (row := none) h ⟨hb.os, hb.tape, hb.output, hb.size, fun k hk _ => hb.block k hk⟩ (by cases v.ownBlock <;> simp)
theorem OwnB.mono {B B' : Nat} {w : World} {v : Value} {l : List Br} (h : OwnB B w v l) (hB : B' ≤ B) : OwnB B' w v l := ⟨h.1, h.2.imp id fun ⟨g, cap, cur, e, hb, r⟩ => ⟨g, cap, cur, e, Nat.le_trans hB hb, r⟩⟩
theorem OwnB.grown {B : Nat} {w w' : World} {v : Value} {l : List Br} {row : Option Nat} (h : OwnB B w v l) (hg : w.grownBy w' row) (hne : v.ownBlock = none ∨ v.ownBlock ≠ row) : OwnB B w' v l := World.ownsRow.kept h hg hne


end Go.Proofs.YtionbmlicmibgaaGreatDoor
/- unfold: a branch, and behind it what stands beneath it. -/
namespace Go.Proofs.YtionbmlicmibgaaGreatDoor
set_option linter.unusedVariables false
set_option linter.unusedSimpArgs false
open Go.RowKit

/-- From w to w' only v's own row has changed, and v' lies in that, or in a block made since. -/
def Ext2 (w : World) (v : Value) (w' : World) (v' : Value) : Prop := w.grownBy w' v.ownBlock ∧ (v'.ownBlock = v.ownBlock ∨ ∃ i, w.heap.size ≤ i ∧ v'.ownBlock = some i)
theorem Ext2.refl (w : World) (v : Value) : Ext2 w v w v := ⟨World.grownBy.refl _ _, .inl rfl⟩
theorem Ext2.trans {w w1 w2 : World} {v v1 v2 : Value} (h : Ext2 w v w1 v1) (h' : Ext2 w1 v1 w2 v2) : Ext2 w v w2 v2 := by
 obtain ⟨g, o⟩ := h
 obtain ⟨g', o'⟩ := h'
 refine ⟨⟨g'.os.trans g.os, g'.tape.trans g.tape, g'.output.trans g.output, Nat.le_trans g.size g'.size, fun k hk hne => ?_⟩, ?_⟩
 ·refine (g'.block k (Nat.lt_of_lt_of_le hk g.size) fun e => ?_).trans (g.block k hk hne)
  rcases o with o | ⟨i, hi, o⟩
  ·exact hne (e.trans o)
  ·rw [o] at e
   injection e with e
   omega
 ·rcases o' with o' | ⟨i, hi, o'⟩
  ·rcases o with o | ⟨j, hj, o⟩
   ·exact .inl (o'.trans o)
   ·exact .inr ⟨j, hj, o'.trans o⟩
  ·exact .inr ⟨i, Nat.le_trans g.size hi, o'⟩
theorem Ext2.alloc (w : World) (v : Value) (o : Obj) : Ext2 w v (w.alloc o) v := ⟨World.grownBy_alloc w o _, .inl rfl⟩
theorem Ext2.drewN {w w' : World} {v v' : Value} (h : Ext2 w v w' v') (q : Nat) : Ext2 w v (w'.drewN q) v' := ⟨⟨h.1.os, h.1.tape, h.1.output, h.1.size, h.1.block⟩, h.2⟩
theorem UndIs.ext {w w' : World} {B b : Nat} {U : Int → List Sp} {V : Int → Value} {D : DataW Value} {v v' : Value} (h : UndIs w B b U V D) (he : Ext2 w v w' v') (ho : ∀ i, v.ownBlock = some i → UndOff b V D i) : UndIs w' B b U V D ∧ ∀ i, v'.ownBlock = some i → UndOff b V D i :=
 ⟨h.grown he.1 fun i hi => ho i hi, fun i hi => by
  rcases he.2 with e | ⟨j, hj, e⟩
  ·exact ho i (by rw [← e]; exact hi)
  ·rw [e] at hi
   injection hi with hi
   subst hi
   exact h.off_new hj⟩
theorem UndIs.val {w : World} {B b : Nat} {U : Int → List Sp} {V : Int → Value} {D : DataW Value} (h : UndIs w B b U V D) {k : Int} {v : Value} (hv : Maps.has D (.int .i64 k) = true ∧ v = V k ∨ Maps.has D (.int .i64 k) = false ∧ v = .slice none 0 0) : OwnS B w v (U k) := by
 rcases hv with ⟨hh, rfl⟩ | ⟨hh, rfl⟩
 ·exact (h.vals k hh).2
 ·rw [h.none_ k hh]
  exact OwnS.nil _ _
end Go.Proofs.YtionbmlicmibgaaGreatDoor
/- What the laws of a forest say, plainly: what adding counts and keeps. -/
namespace Go.Proofs.YtionbmlicmibgaaGreatDoor
set_option linter.unusedVariables false
set_option linter.unusedSimpArgs false
open Go.RowKit

def cn0 : Cn := ⟨0, 0, 0, 0, 0⟩
def Cn.plus (a b : Cn) : Cn := ⟨a.add + b.add, a.same + b.same, a.other + b.other, a.cyc + b.cyc, a.full + b.full⟩
theorem Cn.plus0 (a : Cn) : a.plus cn0 = a := rfl
theorem Cn.plus_assoc (a b c : Cn) : (a.plus b).plus c = a.plus (b.plus c) := by
 unfold Cn.plus
 simp only [Nat.add_assoc]
theorem Cn.zero_plus (a : Cn) : cn0.plus a = a := by
 unfold Cn.plus cn0
 simp only [Nat.zero_add]
/-- What comes of a call of Add. -/
noncomputable def addP (tr : Int) (L l : List Sp) : List Sp := if l.all (fun x => x.ok && decide (x.t = tr)) = true then (putsP L cn0 l).1 else L
theorem ok_ne {x : Sp} (h : x.ok = true) : x.p ≠ x.i := ((Sp.ok_iff x).1 h).ne
theorem foOk_nil (tr : Int) : FoOk tr [] := ⟨List.Pairwise.nil, noRing_nil, fun x hx => by simp at hx, by simp⟩
theorem FoOk.tidy {tr : Int} {L : List Sp} (h : FoOk tr L) : ∃ r, Tidy L r := by
 obtain ⟨r, hr⟩ := h.rises
 exact ⟨r, h.ids, hr, fun x hx => ((Sp.ok_iff x).1 (h.ok x hx).1).i1⟩
end Go.Proofs.YtionbmlicmibgaaGreatDoor
