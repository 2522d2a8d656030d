/- Several texts made one. -/
import Derived.Test.YtgbdjcekpdfpjaaGreatDoorWa
import Derived.Test.YtgbdjcekpdfpjaaGreatDoorWb
import Derived.Deep.MidRow
import Derived.WalkLawsBesides
import Derived.WalkSpells
import Derived.Outline
import Derived.Laws.IdiomAt
import Derived.Deep.LoopGhost
import Derived.Deep.AppendLies
import Derived.Lib.AppendStr
import Derived.Deep.QuietTactic
import Derived.BigQuiet
import Derived.LoopTactic
import Derived.Maps.AppendAt
import Derived.BigGuard
import Derived.Maps.OwnSet
import Derived.Maps.RangeWalk
import Derived.Maps.Ext
import Derived.Deep.RegionHeld3
namespace Go.Proofs.YtgbdjcekpdfpjaaGreatDoor
open Go.RowKit
structure Chg (w w' : World) (S : Nat → Prop) : Prop where
 os : w'.os = w.os
 tape : w'.tape = w.tape
 output : w'.output = w.output
 size : w.heap.size ≤ w'.heap.size
 block : ∀ k, k < w.heap.size → ¬ S k → w'.heap[k]? = w.heap[k]?
theorem Chg.refl (w : World) (S : Nat → Prop) : Chg w w S := ⟨rfl, rfl, rfl, Nat.le_refl _, fun _ _ _ => rfl⟩
theorem Chg.trans {a b c : World} {S S' : Nat → Prop} (h : Chg a b S) (h' : Chg b c S') (hs : ∀ k, S' k → S k ∨ a.heap.size ≤ k) : Chg a c S :=
 ⟨h'.os.trans h.os, h'.tape.trans h.tape, h'.output.trans h.output, Nat.le_trans h.size h'.size, fun k hk hn =>
  (h'.block k (Nat.lt_of_lt_of_le hk h.size) (fun h1 => by
   rcases hs k h1 with h2 | h2
   ·exact hn h2
   ·omega)).trans (h.block k hk hn)⟩
theorem Chg.mono {w w' : World} {S S' : Nat → Prop} (h : Chg w w' S) (hs : ∀ k, S k → S' k) : Chg w w' S' :=
 ⟨h.os, h.tape, h.output, h.size, fun k hk hn => h.block k hk fun h1 => hn (hs k h1)⟩
theorem Chg.of_grown {w w' : World} {row : Option Nat} (h : w.grownBy w' row) (S : Nat → Prop) (hs : ∀ k, row = some k → S k ∨ w.heap.size ≤ k) : Chg w w' S :=
 ⟨h.os, h.tape, h.output, h.size, fun k hk hn => h.block k hk fun e => by
  rcases hs k e.symm with h1 | h1
  ·exact hn h1
  ·omega⟩
theorem Chg.of_below {w w' : World} (h : Below w.heap.size w w') (S : Nat → Prop) : Chg w w' S := ⟨h.os, h.tape, h.output, h.size, fun k hk _ => h.block k hk⟩
theorem Chg.drewN {w w' : World} {S : Nat → Prop} (h : Chg w w' S) (n : Nat) : Chg w (w'.drewN n) S := ⟨h.os, h.tape, h.output, h.size, h.block⟩
theorem Chg.to_below {w0 w w' : World} {S : Nat → Prop} (hb : Below w0.heap.size w0 w) (h : Chg w w' S) (hs : ∀ k, S k → w0.heap.size ≤ k) : Below w0.heap.size w0 w' :=
 ⟨h.os.trans hb.os, h.tape.trans hb.tape, h.output.trans hb.output, Nat.le_trans hb.size h.size, fun k hk => (h.block k (Nat.lt_of_lt_of_le hk hb.size) (fun h1 => by have := hs k h1; omega)).trans (hb.block k hk)⟩
theorem Chg.cell {w w' : World} {S : Nat → Prop} (h : Chg w w' S) {a : Addr} {v : Value} (hc : w.cell? a = some v) (hn : ¬ S a.block) : w'.cell? a = some v :=
 (World.cell?_of_block (h.block a.block (World.block_lt_of_cell? w a hc) hn)).trans hc
end Go.Proofs.YtgbdjcekpdfpjaaGreatDoor
namespace Go.Proofs.YtgbdjcekpdfpjaaGreatDoor
open Go.RowKit
theorem below_drewN {B : Nat} {a w : World} (h : Below B a w) (n : Nat) : Below B a (w.drewN n) := h.trans ⟨rfl, rfl, rfl, Nat.le_refl _, fun _ _ => rfl⟩
theorem Own.lt {B : Nat} {w : World} {v : Value} {l : List UInt8} (h : Own B w v l) (hl : 0 < l.length) : ∀ k, v.ownBlock = some k → B ≤ k ∧ k < w.heap.size := by
 intro k hk
 rcases h with ⟨rfl, rfl⟩ | ⟨g, cap, rfl, hB, hlc, hm, hc, hs, hf⟩
 ·simp at hl
 ·simp only [Value.ownBlock, Option.some.injEq] at hk
  subst hk
  exact ⟨hB, lt_of_cell (hc 0 l[0] (List.getElem?_eq_getElem hl))⟩
theorem Own.grown {B : Nat} {w w' : World} {v : Value} {l : List UInt8} {row : Option Nat} (h : Own B w v l) (hg : w.grownBy w' row) (hne : ∀ k, v.ownBlock = some k → row ≠ some k) : Own B w' v l := by
 rcases h with h | ⟨g, cap, rfl, hB, hlc, hm, hc, hs, hf⟩
 ·exact .inl h
 ·refine .inr ⟨g, cap, rfl, hB, hlc, hm, ?_⟩
  by_cases h0 : cap = 0
  ·subst h0
   obtain rfl : l = [] := List.eq_nil_of_length_eq_zero (by omega)
   exact ⟨fun i x hx => by simp at hx, fun i hi => by omega, fun i hi => by omega⟩
  ·have hlt : g < w.heap.size := by
    obtain ⟨u, hu⟩ := Option.isSome_iff_exists.1 (hs 0 (by omega))
    exact lt_of_cell hu
   have hb : w'.heap[g]? = w.heap[g]? := hg.block g hlt (fun e => hne g rfl e.symm)
   have hcell : ∀ i, w'.cell? ⟨g, i, none⟩ = w.cell? ⟨g, i, none⟩ := fun i => by simp only [World.cell?, hb]
   have hfr : ∀ i, w'.frozen? ⟨g, i, none⟩ = w.frozen? ⟨g, i, none⟩ := fun i => by simp only [World.frozen?, hb]
   exact ⟨fun i x hx => by rw [hcell]; exact hc i x hx, fun i hi => by rw [hcell]; exact hs i hi, fun i hi => by rw [hfr]; exact hf i hi⟩
theorem Own.cellAt {B : Nat} {w : World} {p : Option Addr} {n c : Nat} {l : List UInt8} (h : Own B w (.slice p n c) l) {j : Nat} (hj : j < n) :
  ∃ (g : Nat) (y : UInt8), p = some ⟨g, 0, none⟩ ∧ B ≤ g ∧ l[j]? = some y ∧ w.cell? ⟨g, j, none⟩ = some (.int .u8 (y.toNat : Int)) ∧ w.frozen? ⟨g, j, none⟩ = false ∧
   ∀ u : UInt8, Own B (w.setCell ⟨g, j, none⟩ (.int .u8 (u.toNat : Int))) (.slice p n c) (l.set j u) := by
 rcases h with ⟨e, rfl⟩ | ⟨g, cap, e, hB, hl, hm, hc, hs, hf⟩
 ·injection e with _ e2 _
  omega
 ·injection e with e1 e2 e3
  subst e1 e3
  have hjl : j < l.length := by omega
  have hcj := hc j _ (List.getElem?_eq_getElem hjl)
  refine ⟨g, l[j], rfl, hB, List.getElem?_eq_getElem hjl, hcj, hf j (by omega), fun u => .inr ⟨g, c, by rw [List.length_set, e2], hB, by rw [List.length_set]; exact hl, hm, fun i x hx => ?_, fun i hi => ?_, fun i hi => ?_⟩⟩
  ·by_cases hij : i = j
   ·subst hij
    rw [List.getElem?_set_self hjl] at hx
    injection hx with hx
    subst hx
    rw [World.cell?_setCell_same (h := hcj)]
    rfl
   ·rw [List.getElem?_set_ne (by omega)] at hx
    rw [World.cell?_setCell_other _ _ _ _ (by intro h; injection h with _ h; omega)]
    exact hc i x hx
  ·by_cases hij : i = j
   ·subst hij
    rw [World.cell?_setCell_same (h := hcj)]
    rfl
   ·rw [World.cell?_setCell_other _ _ _ _ (by intro h; injection h with _ h; omega)]
    exact hs i hi
  ·rw [World.frozen?_setCell]
   exact hf i hi
theorem str_size (l : List UInt8) : (str l).size = l.length := by rw [str_eq]; rfl
theorem str_list (l : List UInt8) : (str l).data.toList = l := by rw [str_eq]
end Go.Proofs.YtgbdjcekpdfpjaaGreatDoor
namespace Go.Proofs.YtgbdjcekpdfpjaaGreatDoor
abbrev Fl := List (List UInt8 × List UInt8)
def get : Fl → List UInt8 → Option (List UInt8)
 | [], _ => none
 | p :: r, x => if p.1 = x then some p.2 else get r x
def del (F : Fl) (x : List UInt8) : Fl := F.filter fun p => decide (p.1 ≠ x)
def lay : Fl → List UInt8 → List UInt8 → Fl
 | [], x, b => [(x, b)]
 | p :: r, x, b => if x < p.1 then (x, b) :: p :: r else p :: lay r x b
def put (F : Fl) (x b : List UInt8) : Fl := lay (del F x) x b
def Rises (F : Fl) : Prop := F.Pairwise fun p q => p.1 < q.1
theorem nm_irrefl (x : List UInt8) : ¬ x < x := List.lt_irrefl x
theorem nm_trans {x y z : List UInt8} (h : x < y) (h' : y < z) : x < z := List.lt_trans h h'
theorem nm_total {x y : List UInt8} (h : ¬ x < y) (hne : x ≠ y) : y < x := by
 rcases Std.Trichotomous.rel_or_eq_or_rel_swap (r := (· < · : List UInt8 → List UInt8 → Prop)) (a := x) (b := y) with h1 | h1 | h1
 ·exact absurd h1 h
 ·exact absurd h1 hne
 ·exact h1
theorem get_none_iff {F : Fl} {x : List UInt8} : get F x = none ↔ ∀ p ∈ F, p.1 ≠ x := by
 induction F with
 | nil => simp [get]
 | cons p r ih =>
  unfold get
  by_cases h : p.1 = x
  ·simp [h]
  ·rw [if_neg h, ih]
   simp [h]
theorem get_mem {F : Fl} {x b : List UInt8} (h : get F x = some b) : (x, b) ∈ F := by
 induction F with
 | nil => simp [get] at h
 | cons p r ih =>
  unfold get at h
  by_cases hp : p.1 = x
  ·rw [if_pos hp] at h
   injection h with h
   subst hp h
   exact List.mem_cons_self ..
  ·rw [if_neg hp] at h
   exact List.mem_cons_of_mem _ (ih h)
theorem get_of_mem {F : Fl} (hr : Rises F) {x b : List UInt8} (h : (x, b) ∈ F) : get F x = some b := by
 induction F with
 | nil => simp at h
 | cons p r ih =>
  obtain ⟨h1, h2⟩ := List.pairwise_cons.1 hr
  unfold get
  rcases List.mem_cons.1 h with rfl | h
  ·simp
  ·have hlt := h1 _ h
   rw [if_neg (fun e => nm_irrefl x (by rw [← e] at hlt ⊢; exact hlt))]
   exact ih h2 h
theorem get_del (F : Fl) (x y : List UInt8) : get (del F x) y = if x = y then none else get F y := by
 induction F with
 | nil => simp [del, get]
 | cons p r ih =>
  unfold del at ih ⊢
  by_cases hp : p.1 = x
  ·rw [List.filter_cons_of_neg (by simp [hp]), ih]
   by_cases hxy : x = y
   ·simp [hxy]
   ·rw [if_neg hxy, if_neg hxy]
    conv => rhs; unfold get
    rw [if_neg (by rw [hp]; exact hxy)]
  ·rw [List.filter_cons_of_pos (by simp [hp])]
   unfold get
   by_cases hy : p.1 = y
   ·rw [if_pos hy, if_neg (fun e => hp (by rw [e, hy])), if_pos hy]
   ·rw [if_neg hy, ih, if_neg hy]
theorem get_lay (F : Fl) (x b y : List UInt8) (hx : get F x = none) : get (lay F x b) y = if x = y then some b else get F y := by
 induction F with
 | nil => simp [lay, get]
 | cons p r ih =>
  have hpx : p.1 ≠ x := get_none_iff.1 hx p (List.mem_cons_self ..)
  have hrx : get r x = none := get_none_iff.2 fun q hq => get_none_iff.1 hx q (List.mem_cons_of_mem _ hq)
  unfold lay
  by_cases h : x < p.1
  ·rw [if_pos h]
   conv => lhs; unfold get
  ·rw [if_neg h]
   unfold get
   rw [ih hrx]
   by_cases hy : p.1 = y
   ·rw [if_pos hy, if_pos hy, if_neg (fun e => hpx (by rw [e, hy]))]
   ·rw [if_neg hy, if_neg hy]
theorem get_put (F : Fl) (x b y : List UInt8) : get (put F x b) y = if x = y then some b else get F y := by
 unfold put
 rw [get_lay _ _ _ _ (by rw [get_del, if_pos rfl]), get_del]
 by_cases h : x = y
 ·simp [h]
 ·simp [h]
theorem Rises.del {F : Fl} (h : Rises F) (x : List UInt8) : Rises (del F x) := List.Pairwise.filter _ h
theorem mem_lay {F : Fl} {x b : List UInt8} {q : List UInt8 × List UInt8} (h : q ∈ lay F x b) : q = (x, b) ∨ q ∈ F := by
 induction F with
 | nil => simp [lay] at h; exact .inl h
 | cons p r ih =>
  unfold lay at h
  by_cases hx : x < p.1
  ·rw [if_pos hx] at h
   rcases List.mem_cons.1 h with h | h
   ·exact .inl h
   ·exact .inr h
  ·rw [if_neg hx] at h
   rcases List.mem_cons.1 h with h | h
   ·exact .inr (by rw [h]; exact List.mem_cons_self ..)
   ·rcases ih h with h | h
    ·exact .inl h
    ·exact .inr (List.mem_cons_of_mem _ h)
theorem Rises.lay {F : Fl} (h : Rises F) {x b : List UInt8} (hx : get F x = none) : Rises (lay F x b) := by
 induction F with
 | nil => simp [Rises, Go.Proofs.YtgbdjcekpdfpjaaGreatDoor.lay]
 | cons p r ih =>
  obtain ⟨h1, h2⟩ := List.pairwise_cons.1 h
  have hpx : p.1 ≠ x := get_none_iff.1 hx p (List.mem_cons_self ..)
  have hrx : get r x = none := get_none_iff.2 fun q hq => get_none_iff.1 hx q (List.mem_cons_of_mem _ hq)
  unfold Go.Proofs.YtgbdjcekpdfpjaaGreatDoor.lay
  by_cases hlt : x < p.1
  ·rw [if_pos hlt]
   refine List.pairwise_cons.2 ⟨fun q hq => ?_, h⟩
   rcases List.mem_cons.1 hq with rfl | hq
   ·exact hlt
   ·exact nm_trans hlt (h1 q hq)
  ·rw [if_neg hlt]
   refine List.pairwise_cons.2 ⟨fun q hq => ?_, ih h2 hrx⟩
   rcases mem_lay hq with rfl | hq
   ·exact nm_total hlt hpx.symm
   ·exact h1 q hq
theorem Rises.put {F : Fl} (h : Rises F) (x b : List UInt8) : Rises (put F x b) := (h.del x).lay (by rw [get_del, if_pos rfl])
theorem Rises.ext {F G : Fl} (hF : Rises F) (hG : Rises G) (h : ∀ x, get F x = get G x) : F = G := by
 induction F generalizing G with
 | nil =>
  cases G with
  | nil => rfl
  | cons q s =>
   have := h q.1
   simp [get] at this
 | cons p r ih =>
  obtain ⟨f1, f2⟩ := List.pairwise_cons.1 hF
  cases G with
  | nil =>
   have := h p.1
   simp [get] at this
  | cons q s =>
   obtain ⟨g1, g2⟩ := List.pairwise_cons.1 hG
   have hpq : p.1 = q.1 := by
    have e1 := h p.1
    have e2 := h q.1
    by_cases hne : p.1 = q.1
    ·exact hne
    ·exfalso
     have hm1 : (p.1, p.2) ∈ q :: s := get_mem (by rw [← e1]; simp [get])
     have hm2 : (q.1, q.2) ∈ p :: r := get_mem (by rw [e2]; simp [get])
     rcases List.mem_cons.1 hm1 with e | hm1
     ·exact hne (by rw [← e])
     ·rcases List.mem_cons.1 hm2 with e | hm2
      ·exact hne (by rw [← e])
      ·exact nm_irrefl _ (nm_trans (f1 _ hm2) (g1 _ hm1))
   have hv : p.2 = q.2 := by
    have e1 := h p.1
    simp [get, hpq] at e1
    exact e1
   have e : p = q := Prod.ext hpq hv
   subst e
   rw [ih f2 g2 fun x => ?_]
   have e1 := h x
   unfold get at e1
   by_cases hx : p.1 = x
   ·have n1 : get r x = none := get_none_iff.2 fun y hy e2 => nm_irrefl x (by have := f1 y hy; rw [e2, hx] at this; exact this)
    have n2 : get s x = none := get_none_iff.2 fun y hy e2 => nm_irrefl x (by have := g1 y hy; rw [e2, hx] at this; exact this)
    rw [n1, n2]
   ·rw [if_neg hx, if_neg hx] at e1
    exact e1
theorem length_lay (F : Fl) (x b : List UInt8) : (lay F x b).length = F.length + 1 := by
 induction F with
 | nil => rfl
 | cons p r ih =>
  unfold lay
  split
  ·rfl
  ·simp [ih]
theorem length_del {F : Fl} (h : Rises F) (x : List UInt8) : (del F x).length + (if (get F x).isSome then 1 else 0) = F.length := by
 induction F with
 | nil => rfl
 | cons p r ih =>
  obtain ⟨h1, h2⟩ := List.pairwise_cons.1 h
  have ih := ih h2
  unfold del at ih ⊢
  unfold get
  by_cases hp : p.1 = x
  ·rw [List.filter_cons_of_neg (by simp [hp]), if_pos hp]
   have hn : get r x = none := get_none_iff.2 fun y hy e => nm_irrefl x (by have := h1 y hy; rw [e, hp] at this; exact this)
   rw [hn] at ih
   simp at ih ⊢
   omega
  ·rw [List.filter_cons_of_pos (by simp [hp]), if_neg hp, List.length_cons, List.length_cons]
   omega
theorem length_put {F : Fl} (h : Rises F) (x b : List UInt8) : (put F x b).length = if (get F x).isSome then F.length else F.length + 1 := by
 unfold put
 rw [length_lay]
 have := length_del h x
 split <;> simp_all <;> omega
def total (F : Fl) : Nat := (F.map fun p => p.2.length).sum
end Go.Proofs.YtgbdjcekpdfpjaaGreatDoor
namespace Go.Proofs.YtgbdjcekpdfpjaaGreatDoor
set_option maxRecDepth 20000
open Go.RowKit
theorem row_chg {w w' : World} {S : Nat → Prop} {B n s : Nat} {e : TypeId} {v : Value} {xs : List Value} (h : w.ownsRow B e s v n xs) (hc : Chg w w' S) (hne : ∀ k, v.ownBlock = some k → ¬ S k) : w'.ownsRow B e s v n xs := by
 refine ⟨h.1, ?_⟩
 rcases h.2 with hn | ⟨g, cap, cur, rfl, hb, hg, rest⟩
 ·exact .inl hn
 ·exact .inr ⟨g, cap, cur, rfl, hb, (hc.block g (Array.getElem?_eq_some_iff.1 hg).1 (hne g rfl)).trans hg, rest⟩
theorem By.chg {w w' : World} {S : Nat → Prop} {v : Value} {l : List UInt8} (h : By w v l) (hc : Chg w w' S) (hne : l = [] ∨ ∀ k, v.ownBlock = some k → ¬ S k) : By w' v l := by
 obtain ⟨p, cap, rfl, hl, hm, hn, hcell⟩ := h
 refine ⟨p, cap, rfl, hl, hm, hn, fun a e i x hx => ?_⟩
 rcases hne with rfl | hne
 ·simp at hx
 ·subst e
  refine hc.cell (hcell a rfl i x hx) ?_
  rw [block_add]
  exact hne a.block rfl
theorem by_row {w : World} {B n : Nat} {v : Value} {l : List UInt8} (h : w.ownsRow B 5 1 v n (l.map bv)) : By w v l := (Own.of_row h).by_
theorem map_chg {H : Type} {P : Program} {k : TypeId} {R : Value → Option (DataW H × List MemPlace)} {w w' : World} {S : Nat → Prop} {b n : Nat} {D : DataW H} (h : w.ownsMap P k R b n D) (hc : Chg w w' S) (hb : ¬ S b) : w'.ownsMap P k R b n D := by
 have hlt := h.lt
 obtain ⟨es, clock, h1, rest⟩ := h
 exact ⟨es, clock, (hc.block b hlt hb).trans h1, rest⟩
theorem map_tight {H : Type} {P : Program} {k : TypeId} {R : Value → Option (DataW H × List MemPlace)} {w : World} {b n : Nat} {D : DataW H} (h : w.ownsMap P k R b n D) : w.ownsMap P k R b (Maps.size D) D := by
 obtain ⟨es, clock, hb, F, hs, rfl⟩ := h
 exact ⟨es, clock, hb, F, by simp [Maps.size, length_sorted], rfl⟩
def held : Value → Option (DataW Value × List MemPlace)
 | .slice p n c => some (.held (.slice p n c), [])
 | _ => none
theorem held_inv {v u : Value} {ps : List MemPlace} (h : held v = some (.held u, ps)) : v = u := by
 cases v <;> simp [held] at h
 exact h.1
theorem held_slice {v : Value} {y : DataW Value × List MemPlace} (h : held v = some y) : (∃ c : Option Addr × Nat × Nat, v = .slice c.1 c.2.1 c.2.2) ∧ y.1 = .held v := by
 cases v <;> simp [held] at h
 subst h
 exact ⟨⟨(_, _, _), rfl⟩, rfl⟩
theorem held_row {w : World} {B n s : Nat} {e : TypeId} {v : Value} {xs : List Value} (h : w.ownsRow B e s v n xs) : held v = some (.held v, []) := by
 rcases h.2 with ⟨rfl, _⟩ | ⟨g, cap, cur, rfl, _⟩
 ·rfl
 ·rfl
theorem strK : Maps.Keyed Tryz.prog 9 := Maps.string_keyed Tryz.underlying9
theorem keyS {s : ByteArray} (hs : s.size ≤ maxLen) : keyOf Tryz.prog 9 (.string s) = some (.string s.data.toList) := WideMaps.keyOf_string_mk Tryz.underlying9 hs
theorem isKey (k : List UInt8) : WideAt.IsKeyLit (.string k) := trivial
theorem zeroB (w : World) : (zeroValue 40).run Tryz.prog w = .ok (.slice none 0 0) w := by kernel_rfl
structure FilesIs (w : World) (S : Nat → Prop) (b : Nat) (F : Fl) (V : List UInt8 → Value) (D : DataW Value) : Prop where
 map : w.ownsMap Tryz.prog 9 held b F.length D
 size : Maps.size D = F.length
 in_ : S b
 rises : Rises F
 keys : ∀ k, Maps.has D (.string k) = (get F k).isSome
 vals : ∀ k bs, get F k = some bs → (∀ z, D.atKey (.string k) z = .held (V k)) ∧ w.ownsRow 0 5 1 (V k) bs.length (bs.map bv)
 blk : ∀ k bs i, get F k = some bs → (V k).ownBlock = some i → S i ∧ i ≠ b
 apart : ∀ k k' bs bs' i, k ≠ k' → get F k = some bs → get F k' = some bs' → (V k).ownBlock = some i → (V k').ownBlock ≠ some i
theorem FilesIs.mono {w : World} {S S' : Nat → Prop} {b : Nat} {F : Fl} {V : List UInt8 → Value} {D : DataW Value} (h : FilesIs w S b F V D) (hs : ∀ i, S i → S' i) : FilesIs w S' b F V D :=
 ⟨h.map, h.size, hs _ h.in_, h.rises, h.keys, h.vals, fun k bs i h1 h2 => ⟨hs _ (h.blk k bs i h1 h2).1, (h.blk k bs i h1 h2).2⟩, h.apart⟩
theorem FilesIs.chg {w w' : World} {S T : Nat → Prop} {b : Nat} {F : Fl} {V : List UInt8 → Value} {D : DataW Value} (h : FilesIs w S b F V D) (hc : Chg w w' T) (hd : ∀ i, S i → ¬ T i) : FilesIs w' S b F V D :=
 ⟨map_chg h.map hc (hd _ h.in_), h.size, h.in_, h.rises, h.keys, fun k bs hk => ⟨(h.vals k bs hk).1, row_chg (h.vals k bs hk).2 hc fun i hi => hd i (h.blk k bs i hk hi).1⟩, h.blk, h.apart⟩
theorem FilesIs.look {w : World} {S : Nat → Prop} {b : Nat} {F : Fl} {V : List UInt8 → Value} {D : DataW Value} (h : FilesIs w S b F V D) {s : ByteArray} (hs : s.size ≤ maxLen) :
  (∀ bs, get F s.data.toList = some bs → ∀ q, (Instr.lookup 91 (.map (some b)) (.string s) true).run Tryz.prog (w.drewN q) = .ok (.tuple #[V s.data.toList, .bool true]) (w.drewN q) ∧ (Instr.lookup 91 (.map (some b)) (.string s) false).run Tryz.prog (w.drewN q) = .ok (V s.data.toList) (w.drewN q)) ∧
  (get F s.data.toList = none → ∀ q, (Instr.lookup 91 (.map (some b)) (.string s) true).run Tryz.prog (w.drewN q) = .ok (.tuple #[.slice none 0 0, .bool false]) (w.drewN q) ∧ (Instr.lookup 91 (.map (some b)) (.string s) false).run Tryz.prog (w.drewN q) = .ok (.slice none 0 0) (w.drewN q)) := by
 have hmap : ∀ q, (w.drewN q).ownsMap Tryz.prog 9 held b F.length D := fun q => h.map
 refine ⟨fun bs hbs q => ?_, fun hn q => ?_⟩
 ·obtain ⟨v, ps, hrun, hv⟩ := (hmap q).look_ok strK Tryz.underlying91 (zeroB (w.drewN q)) (zd := .held (.slice none 0 0)) (zp := []) rfl (keyS hs)
  obtain ⟨v2, ps2, hrun2, hv2⟩ := (hmap q).lookup strK Tryz.underlying91 (zeroB (w.drewN q)) (zd := .held (.slice none 0 0)) (zp := []) rfl (keyS hs)
  rw [(h.vals _ bs hbs).1] at hv hv2
  obtain rfl := held_inv hv
  obtain rfl := held_inv hv2
  rw [h.keys, hbs] at hrun
  exact ⟨hrun, hrun2⟩
 ·have hk : Maps.has D (.string s.data.toList) = false := by rw [h.keys, hn]; rfl
  obtain ⟨v, ps, hrun, hv⟩ := (hmap q).look_ok strK Tryz.underlying91 (zeroB (w.drewN q)) (zd := .held (.slice none 0 0)) (zp := []) rfl (keyS hs)
  obtain ⟨v2, ps2, hrun2, hv2⟩ := (hmap q).lookup strK Tryz.underlying91 (zeroB (w.drewN q)) (zd := .held (.slice none 0 0)) (zp := []) rfl (keyS hs)
  rw [Maps.atKey_of_not_has hk] at hv hv2
  obtain rfl := held_inv hv
  obtain rfl := held_inv hv2
  rw [hk] at hrun
  exact ⟨hrun, hrun2⟩
theorem FilesIs.store {w : World} {S S' : Nat → Prop} {b : Nat} {F : Fl} {V : List UInt8 → Value} {D : DataW Value} {s : ByteArray} {v : Value} {bs : List UInt8} (hs : s.size ≤ maxLen)
  (map : w.ownsMap Tryz.prog 9 held b F.length D) (hsize : Maps.size D = F.length) (hn : F.length < maxLen) (hin : S b) (rises : Rises F) (keys : ∀ k, Maps.has D (.string k) = (get F k).isSome)
  (vals : ∀ k bs, k ≠ s.data.toList → get F k = some bs → (∀ z, D.atKey (.string k) z = .held (V k)) ∧ w.ownsRow 0 5 1 (V k) bs.length (bs.map bv))
  (blk : ∀ k bs i, k ≠ s.data.toList → get F k = some bs → (V k).ownBlock = some i → S i ∧ i ≠ b)
  (apart : ∀ k k' bs bs' i, k ≠ s.data.toList → k' ≠ s.data.toList → k ≠ k' → get F k = some bs → get F k' = some bs' → (V k).ownBlock = some i → (V k').ownBlock ≠ some i)
  (hrow : w.ownsRow 0 5 1 v bs.length (bs.map bv)) (hS : ∀ i, S i → S' i) (hvb : ∀ i, v.ownBlock = some i → S' i ∧ i ≠ b)
  (hsep : ∀ k bs i, k ≠ s.data.toList → get F k = some bs → v.ownBlock = some i → (V k).ownBlock ≠ some i) :
  ∃ w', (Instr.mapUpdate 91 (.map (some b)) (.string s) v).run Tryz.prog w = .ok () w' ∧ w.grownBy w' (some b) ∧ FilesIs w' S' b (put F s.data.toList bs) (fun k => if k = s.data.toList then v else V k) (D.put (.string s.data.toList) (.held v)) := by
 obtain ⟨w', hrun, hm', hg⟩ := map.update strK Tryz.underlying91 hn (keyS hs) (d := .held v) (ps := []) (val := v) (held_row hrow)
 have htidy := map.tidy strK
 have hD' : Maps.size (D.put (.string s.data.toList) (.held v)) = (put F s.data.toList bs).length := by
  rw [Maps.size_put htidy, hsize, length_put rises, keys]
 have hgb : ∀ i, i ≠ b → some i ≠ some b := fun i hi e => hi (by injection e)
 refine ⟨w', hrun, hg, ⟨?_, hD', hS _ hin, rises.put _ _, fun k => ?_, fun k bs' hk => ?_, fun k bs' i hk hi => ?_, fun k k' bs1 bs2 i hne h1 h2 h3 => ?_⟩⟩
 ·rw [← hD']
  exact map_tight hm'
 ·rw [get_put]
  by_cases e : s.data.toList = k
  ·subst e
   rw [if_pos rfl, Maps.has_put_same map.isMap (isKey _)]
   rfl
  ·rw [if_neg e, Maps.has_put_other (fun h => e (by injection h with h; exact h.symm)), keys]
 ·rw [get_put] at hk
  by_cases e : s.data.toList = k
  ·subst e
   rw [if_pos rfl] at hk
   injection hk with hk
   subst hk
   refine ⟨fun z => ?_, ?_⟩
   ·rw [Maps.atKey_put_same map.isMap (isKey _), if_pos rfl]
   ·rw [if_pos rfl]
    exact hrow.kept hg (by
     rcases hvo : v.ownBlock with _ | i
     ·exact .inl rfl
     ·exact .inr (hgb i (hvb i hvo).2))
  ·rw [if_neg e] at hk
   have e' : k ≠ s.data.toList := fun h => e h.symm
   refine ⟨fun z => ?_, ?_⟩
   ·rw [Maps.atKey_put_other (fun h => e (by injection h with h; exact h.symm)), if_neg e', (vals k bs' e' hk).1]
   ·rw [if_neg e']
    exact (vals k bs' e' hk).2.kept hg (by
     rcases hvo : (V k).ownBlock with _ | i
     ·exact .inl rfl
     ·exact .inr (hgb i (blk k bs' i e' hk hvo).2))
 ·rw [get_put] at hk
  by_cases e : s.data.toList = k
  ·subst e
   rw [if_pos rfl] at hi
   exact hvb i hi
  ·have e' : k ≠ s.data.toList := fun h => e h.symm
   rw [if_neg e] at hk
   rw [if_neg e'] at hi
   exact ⟨hS _ (blk k bs' i e' hk hi).1, (blk k bs' i e' hk hi).2⟩
 ·rw [get_put] at h1 h2
  by_cases e1 : s.data.toList = k
  ·have e2 : k' ≠ s.data.toList := fun h => hne (by rw [h, e1])
   rw [if_neg (fun h => e2 h.symm)] at h2
   rw [if_pos e1.symm] at h3
   rw [if_neg e2]
   exact hsep k' bs2 i e2 h2 h3
  ·have e1' : k ≠ s.data.toList := fun h => e1 h.symm
   rw [if_neg e1] at h1
   rw [if_neg e1'] at h3
   by_cases e2 : s.data.toList = k'
   ·rw [if_pos e2.symm]
    exact fun h => hsep k bs1 i e1' h1 h h3
   ·have e2' : k' ≠ s.data.toList := fun h => e2 h.symm
    rw [if_neg e2] at h2
    rw [if_neg e2']
    exact apart k k' bs1 bs2 i e1' e2' hne h1 h2 h3
theorem FilesIs.drop {w : World} {S : Nat → Prop} {b : Nat} {F : Fl} {V : List UInt8 → Value} {D : DataW Value} (h : FilesIs w S b F V D) {s : ByteArray} (hs : s.size ≤ maxLen) (ty : TypeId) :
  ∃ w', (Builtin.delete_ #[91, 9] ty #[.map (some b), .string s]).run Tryz.prog w = .ok (.tuple #[]) w' ∧ w.grownBy w' (some b) ∧ FilesIs w' S b (del F s.data.toList) V (D.del (.string s.data.toList)) := by
 obtain ⟨w', hrun, hm', ht⟩ := h.map.drop strK Tryz.underlying91 (keyS hs) ty
 have hg := ht.grown
 have htidy := h.map.tidy strK
 have hsz : Maps.size (D.del (.string s.data.toList)) = (del F s.data.toList).length := by
  have h1 := Maps.size_del (k := .string s.data.toList) htidy
  have h2 := length_del h.rises s.data.toList
  rw [h.keys, h.size] at h1
  omega
 have hgb : ∀ i, i ≠ b → some i ≠ some b := fun i hi e => hi (by injection e)
 have some_of : ∀ {k bs}, get (del F s.data.toList) k = some bs → s.data.toList ≠ k ∧ get F k = some bs := fun {k bs} hk => by
  rw [get_del] at hk
  by_cases e : s.data.toList = k
  ·rw [if_pos e] at hk
   cases hk
  ·rw [if_neg e] at hk
   exact ⟨e, hk⟩
 refine ⟨w', hrun, hg, ⟨?_, hsz, h.in_, h.rises.del _, fun k => ?_, fun k bs' hk => ?_, fun k bs' i hk hi => h.blk k bs' i (some_of hk).2 hi, fun k k' bs1 bs2 i hne h1 h2 h3 => h.apart k k' bs1 bs2 i hne (some_of h1).2 (some_of h2).2 h3⟩⟩
 ·rw [← hsz]
  exact map_tight hm'
 ·rw [get_del]
  by_cases e : s.data.toList = k
  ·subst e
   rw [if_pos rfl, Maps.has_del_same]
   rfl
  ·rw [if_neg e, Maps.has_del_other (fun h => e (by injection h with h; exact h.symm)), h.keys]
 ·obtain ⟨e, hk⟩ := some_of hk
  refine ⟨fun z => ?_, (h.vals k bs' hk).2.kept hg ?_⟩
  ·rw [Maps.atKey_del_other (fun h => e (by injection h with h; exact h.symm)), (h.vals k bs' hk).1]
  ·rcases hvo : (V k).ownBlock with _ | i
   ·exact .inl rfl
   ·exact .inr (hgb i (h.blk k bs' i hk hvo).2)
theorem take_splice {α : Type} (A cs : List α) (a N : Nat) (h : a + cs.length ≤ N) (hN : N ≤ A.length) : (A.take a ++ cs ++ A.drop (a + cs.length)).take N = (A.take N).take a ++ cs ++ (A.take N).drop (a + cs.length) := by
 have e1 : (A.take a ++ cs).length = a + cs.length := by rw [List.length_append, List.length_take]; omega
 rw [List.take_append, List.take_of_length_le (by omega), e1, List.take_take, Nat.min_eq_left (by omega), List.drop_take]
theorem cut_own {w : World} {q0 : Option Addr} {n0 c0 N : Nat} {xs : List Value} (h : w.ownsRow 0 5 1 (.slice q0 n0 c0) N xs) {k : Nat} (hk : k ≤ N) :
  N = n0 ∧ ∃ q, (∀ W : World, (Instr.slice 40 (.slice q0 n0 c0) (some (.int .i64 (k : Int))) none none).run Tryz.prog W = .ok (.slice q (n0 - k) (c0 - k)) W) ∧ (k < N → ∃ g, q0 = some ⟨g, 0, none⟩ ∧ q = some ⟨g, k, none⟩) := by
 have hN : N = n0 ∧ n0 ≤ c0 ∧ (q0 = none → n0 = 0) ∧ ∀ a, q0 = some a → ∃ g, a = ⟨g, 0, none⟩ := by
  rcases h.2 with ⟨e, h0⟩ | ⟨g, cap, cur, e, hb, hg, hl, rest⟩
  ·injection e with e1 e2 e3
   subst e1 e2 e3
   exact ⟨h0, Nat.le_refl _, fun _ => rfl, fun a ha => by cases ha⟩
  ·injection e with e1 e2 e3
   subst e1 e2 e3
   exact ⟨rfl, hl, (fun e => by cases e), fun a ha => by injection ha with ha; exact ⟨g, ha.symm⟩⟩
 obtain ⟨rfl, hnc, h0, hg⟩ := hN
 refine ⟨rfl, if c0 = k then q0 else q0.map (·.add k), fun W => ?_, fun hlt => ?_⟩
 ·rw [run_slice_l W 40 _ _ _ underB' .i64 _ (by omega) (by omega), elemB, Tryz.sizeOf5]
  have e4 : ((k : Int)).toNat = k := by omega
  simp only [e4, Result.andThen, sliced, Nat.mul_one]
 ·rcases q0 with _ | a
  ·have := h0 rfl
   omega
  ·obtain ⟨g, rfl⟩ := hg a rfl
   refine ⟨g, rfl, ?_⟩
   rw [if_neg (by omega)]
   simp only [Option.map_some, Option.some.injEq]
   rw [add_lit0, Nat.zero_add]
theorem row_cur {w : World} {q0 : Option Addr} {n0 c0 N g : Nat} {xs : List Value} (h : w.ownsRow 0 5 1 (.slice q0 n0 c0) N xs) (hq : q0 = some ⟨g, 0, none⟩) : N = n0 ∧ N ≤ c0 ∧ c0 ≤ maxLen ∧ ∃ cur, w.heap[g]? = some (.cells cur 5 (0, 0)) ∧ cur.size = c0 ∧ cur.toList.take N = xs := by
 rcases h.2 with ⟨e, h0⟩ | ⟨g', cap, cur, e, hb, hg, hl, hm, hs, ht⟩
 ·injection e with e1 e2 e3
  rw [hq] at e1
  cases e1
 ·injection e with e1 e2 e3
  subst e2 e3
  rw [hq] at e1
  injection e1 with e1
  injection e1 with e1
  subst e1
  exact ⟨rfl, hl, hm, cur, hg, by simpa using hs, by simpa using ht⟩
theorem run_copy_put {w : World} {q0 : Option Addr} {n0 c0 : Nat} {o m : List UInt8} (hrow : w.ownsRow 0 5 1 (.slice q0 n0 c0) o.length (o.map bv)) {at_ : Nat} (hat : at_ ≤ o.length) {q1 : Option Addr} {d1 L : Nat} (hL : L = o.length - at_) (hq : at_ < o.length → ∃ g, q0 = some ⟨g, 0, none⟩ ∧ q1 = some ⟨g, at_, none⟩)
  {p : Option Addr} {n c : Nat} (hx : By w (.slice p n c) m) (ty : TypeId) :
  ∃ w', (Builtin.copy_ #[40, 40] ty #[.slice q1 L d1, .slice p n c]).run Tryz.prog w = .ok (.int .i64 ((min m.length L : Nat) : Int)) w' ∧
   w'.ownsRow 0 5 1 (.slice q0 n0 c0) o.length ((o.take at_ ++ m.take (min m.length L) ++ o.drop (at_ + min m.length L)).map bv) ∧ w.grownBy w' (Value.slice q0 n0 c0).ownBlock := by
 have hs5 : (Tryz.prog.info? 5).map (·.size) = some 1 := by kernel_rfl
 have hnm := hx.len.1
 obtain ⟨k, hk⟩ : ∃ k, min m.length L = k := ⟨_, rfl⟩
 rw [hk]
 by_cases h0 : k = 0
 ·subst h0
  refine ⟨w, ?_, ?_, World.grownBy.refl _ _⟩
  ·rw [run_copy_none w 40 40 ty 5 q1 p L d1 n c Tryz.underlying40 hs5 (by show min n L = 0; rw [hnm]; exact hk)]
   rfl
  ·rw [List.take_zero, List.append_nil, Nat.add_zero, List.take_append_drop]
   exact hrow
 ·obtain ⟨g, hq0, hq1⟩ := hq (by omega)
  obtain ⟨hN, hNc, hcm, cur, hg, hcs, hct⟩ := row_cur hrow hq0
  obtain ⟨p', cap, e, hl, hm, hno, hcell⟩ := hx
  injection e with e1 e2 e3
  subst e1 e3
  have hcl : cur.toList.length = c0 := by rw [Array.length_toList]; exact hcs
  rcases p with _ | a
  ·have := hno rfl
   omega
  ·have hlen : ((m.take k).map bv).length = k := by rw [List.length_map, List.length_take]; omega
   have hrun := run_copy_row (P := Tryz.prog) w 40 40 ty 5 g at_ L d1 a n c cur 5 ((m.take k).map bv) Tryz.underlying40 hs5 hg (by rw [hlen]; show k = min n L; rw [hnm]; exact hk.symm)
    (fun j v hj => by
     rw [List.getElem?_map, List.getElem?_take] at hj
     split at hj
     ·rcases hmj : m[j]? with _ | x
      ·rw [hmj] at hj
       cases hj
      ·rw [hmj] at hj
       injection hj with hj
       subst hj
       exact hcell a rfl j x hmj
     ·cases hj) (by rw [hlen]; omega) (fun v hv => oneCell_bytes _ v hv)
   rw [hq1, hrun]
   rw [hlen]
   refine ⟨_, rfl, ⟨by simp [List.length_map, List.length_append, List.length_take, List.length_drop]; omega, .inr ⟨g, c0, _, by rw [hq0, hN], Nat.zero_le _, setRow_heap w g cur _ 5 _ hg, by omega, hcm, ?_, ?_⟩⟩, ?_⟩
   ·simp only [List.size_toArray, List.length_append, List.length_take, List.length_drop, List.length_map]
    omega
   ·rw [List.toList_toArray, Nat.mul_one]
    have ht := take_splice cur.toList ((m.take k).map bv) at_ o.length (by rw [hlen]; omega) (by omega)
    rw [hlen] at ht
    rw [ht, hct]
    simp only [List.map_append, List.map_take, List.map_drop]
   ·rw [hq0]
    exact ⟨rfl, rfl, rfl, by simp [World.setRow], fun i _ hi => setRow_other w g i _ (fun e => hi (by rw [e]; rfl))⟩
def Ext (S : Nat → Prop) (w w' : World) : Nat → Prop := fun i => S i ∨ (w.heap.size ≤ i ∧ i < w'.heap.size)
theorem Ext.sub {S : Nat → Prop} {w w' : World} {i : Nat} (h : S i) : Ext S w w' i := .inl h
theorem run_append_own {w : World} {v x : Value} {l m : List UInt8} (hv : w.ownsRow 0 5 1 v l.length (l.map bv)) (hx : By w x m) (hs : l.length + m.length ≤ 140737488355328) :
  ∃ v' w', (Builtin.append_ #[40, 40] 40 #[v, x]).run Tryz.prog w = .ok v' w' ∧ w'.ownsRow 0 5 1 v' (l ++ m).length ((l ++ m).map bv) ∧ w.grownBy w' v.ownBlock ∧ (∀ k, v'.ownBlock = some k → v.ownBlock = some k ∨ w.heap.size ≤ k) := by
 obtain ⟨v1, w1, r1, a1, _⟩ := run_append_row_by (B := 0) hv hx hs (Nat.zero_le _)
 obtain ⟨v2, w2, r2, _, b2, _, b4⟩ := run_append_by (B := 0) (Own.of_row hv) hx hs (Nat.zero_le _)
 rw [r1] at r2
 injection r2 with e1 e2
 subst e1 e2
 exact ⟨v1, w1, r1, a1, b2, b4⟩
theorem FilesIs.set {w w2 : World} {S T : Nat → Prop} {b : Nat} {F : Fl} {V : List UInt8 → Value} {D : DataW Value} (h : FilesIs w S b F V D) {s : ByteArray} (hs : s.size ≤ maxLen) (hn : F.length ≤ 1000000)
  (hc : Chg w w2 T) (hT : ∀ i, T i → ∃ bs, get F s.data.toList = some bs ∧ (V s.data.toList).ownBlock = some i) {v : Value} {bs : List UInt8} (hrow : w2.ownsRow 0 5 1 v bs.length (bs.map bv)) (hv : ∀ i, v.ownBlock = some i → T i ∨ w.heap.size ≤ i) :
  ∃ w' V' D', (Instr.mapUpdate 91 (.map (some b)) (.string s) v).run Tryz.prog w2 = .ok () w' ∧ FilesIs w' (Ext S w w') b (put F s.data.toList bs) V' D' ∧ Chg w w' S := by
 have hTb : ¬ T b := fun hb => by
  obtain ⟨bs', h1, h2⟩ := hT b hb
  exact (h.blk _ _ _ h1 h2).2 rfl
 have hTS : ∀ i, T i → S i := fun i hi => by
  obtain ⟨bs', h1, h2⟩ := hT i hi
  exact (h.blk _ _ _ h1 h2).1
 have hvlt : ∀ i, v.ownBlock = some i → i < w2.heap.size := fun i hi => (hrow.lt i hi).2
 have hblt := h.map.lt
 obtain ⟨w', hrun, hg, hF⟩ := FilesIs.store (S := S) (S' := Ext S w w2) (V := V) (v := v) (bs := bs) hs (map_chg h.map hc hTb) h.size (by unfold maxLen; omega) h.in_ h.rises h.keys
  (fun k bs' hk hg => ⟨(h.vals k bs' hg).1, row_chg (h.vals k bs' hg).2 hc fun i hi ht => by
   obtain ⟨bs2, h1, h2⟩ := hT i ht
   exact h.apart k _ bs' bs2 i hk hg h1 hi h2⟩)
  (fun k bs' i hk hg hi => h.blk k bs' i hg hi)
  (fun k k' bs1 bs2 i _ _ hne h1 h2 h3 => h.apart k k' bs1 bs2 i hne h1 h2 h3)
  hrow (fun i hi => .inl hi)
  (fun i hi => by
   rcases hv i hi with h1 | h1
   ·exact ⟨.inl (hTS i h1), fun e => hTb (e ▸ h1)⟩
   ·exact ⟨.inr ⟨h1, hvlt i hi⟩, by omega⟩)
  (fun k bs' i hk hg hi => by
   rcases hv i hi with h1 | h1
   ·obtain ⟨bs2, h2, h3⟩ := hT i h1
    exact fun e => h.apart k _ bs' bs2 i hk hg h2 e h3
   ·intro e
    have := ((h.vals k bs' hg).2.lt i e).2
    omega)
 refine ⟨w', _, _, hrun, hF.mono fun i hi => ?_, (hc.mono hTS).trans (Chg.of_grown hg S fun k hk => ?_) fun k hk => .inl hk⟩
 ·rcases hi with hi | hi
  ·exact .inl hi
  ·exact .inr ⟨hi.1, Nat.lt_of_lt_of_le hi.2 hg.size⟩
 ·injection hk with hk
  exact .inl (hk ▸ h.in_)
end Go.Proofs.YtgbdjcekpdfpjaaGreatDoor
namespace Go.Proofs.YtgbdjcekpdfpjaaGreatDoor
set_option maxRecDepth 200000
set_option maxHeartbeats 1000000
open Go.RowKit
def okB (x : UInt8) : Bool := (decide (97 ≤ x.toNat) && decide (x.toNat ≤ 122)) || (decide (48 ≤ x.toNat) && decide (x.toNat ≤ 57)) || decide (x.toNat = 46)
def okN (l : List UInt8) : Bool := decide (0 < l.length) && decide (l.length ≤ 32) && l.all okB
theorem okB_true {x : UInt8} (h : (97 ≤ x.toNat ∧ x.toNat ≤ 122) ∨ (48 ≤ x.toNat ∧ x.toNat ≤ 57) ∨ x.toNat = 46) : okB x = true := by
 unfold okB
 simp only [Bool.or_eq_true, Bool.and_eq_true, decide_eq_true_eq]
 omega
theorem okB_false {x : UInt8} (h : ¬ ((97 ≤ x.toNat ∧ x.toNat ≤ 122) ∨ (48 ≤ x.toNat ∧ x.toNat ≤ 57) ∨ x.toNat = 46)) : okB x = false := by
 rw [Bool.eq_false_iff]
 unfold okB
 simp only [ne_eq, Bool.or_eq_true, Bool.and_eq_true, decide_eq_true_eq]
 omega
theorem okN_bad {s : ByteArray} {k : Nat} (hk : k < s.size) (h : okB s[k] = false) : okN s.data.toList = false := by
 unfold okN
 have hm : s[k] ∈ s.data.toList := by
  rw [Array.mem_toList_iff]
  exact Array.getElem_mem (xs := s.data) hk
 rw [Bool.and_eq_false_iff]
 exact .inr (List.all_eq_false.2 ⟨_, hm, by rw [h]; simp⟩)
theorem okN_step {s : ByteArray} {k : Nat} (hk : k < s.size) (ha : (s.data.toList.take k).all okB = true) (h : okB s[k] = true) : (s.data.toList.take (k + 1)).all okB = true := by
 have e : s.data.toList[k]? = some s[k] := by
  rw [Array.getElem?_toList]
  exact Array.getElem?_eq_getElem (xs := s.data) hk
 rw [List.take_add_one, e, List.all_append, ha]
 simp [h]
theorem ieq_true {a b : Int} (h : a = b) : (a == b) = true := beq_iff_eq.2 h
theorem ieq_false {a b : Int} (h : a ≠ b) : (a == b) = false := beq_eq_false_iff_ne.2 h
theorem ine_true {a b : Int} (h : a ≠ b) : (a != b) = true := bne_iff_ne.2 h
theorem ine_false {a b : Int} (h : a = b) : (a != b) = false := by rw [h]; simp
theorem named_any (s : ByteArray) (w : World) : Calls Tryz.prog 106 #[.string s] w fun e w' => e = .returned (.bool (okN s.data.toList)) ∧ w = w' := by
 have hl : s.data.toList.length = s.size := by rw [Array.length_toList]; rfl
 by_cases h0 : s.size = 0
 ·have g0 : ((s.size : Int) == 0) = true := ieq_true (by omega)
  have hr : okN s.data.toList = false := by
   unfold okN
   rw [decide_eq_false (p := 0 < s.data.toList.length) (by omega)]
   rfl
  clear hl h0
  go_enter Tryz.func106, Tryz.ntmps106
  go_wp2
  go_ret
  exact ⟨by rw [hr]; rfl, rfl⟩
 have g0 : ((s.size : Int) == 0) = false := ieq_false (by omega)
 by_cases h1 : (32 : Int) < (s.size : Int)
 ·have hr : okN s.data.toList = false := by
   unfold okN
   rw [decide_eq_false (p := s.data.toList.length ≤ 32) (by omega), Bool.and_false]
   rfl
  clear hl
  go_enter Tryz.func106, Tryz.ntmps106
  go_wp2
  go_ret
  exact ⟨by rw [hr]; rfl, rfl⟩
 ·have HL := hide hl
  clear hl
  go_enter Tryz.func106, Tryz.ntmps106
  go_wp2_with fail
  go_loop [15] (fun i => ∃ k : Nat, k ≤ s.size ∧ i = .int .i64 k ∧ (s.data.toList.take k).all okB = true) (fun i => s.size - (intOf i).toNat)
  case atStart => exact ⟨0, by omega, rfl, rfl⟩
  case round =>
   obtain ⟨k, hk, rfl, hall⟩ := hrel
   have HALL := hide hall
   clear hall
   by_cases hkm : (k : Int) < (s.size : Int)
   ·have hks : k < s.size := by omega
    by_cases h46 : s[k].toNat = 46
    ·have g46 : ((s[k].toNat : Int) != 46) = false := ine_false (by omega)
     have HB := hide (okN_step hks HALL.out (okB_true (.inr (.inr h46))))
     go_wp2
     all_goals
      go_round
      case rel => exact ⟨k + 1, by omega, by go_num, HB.out⟩
      case measure => simp [intOf]; omega
    ·have g46 : ((s[k].toNat : Int) != 46) = true := ine_true (by omega)
     have hX : ((97 : Int) ≤ (s[k].toNat : Int) ∧ (s[k].toNat : Int) ≤ 122) ∨ ((48 : Int) ≤ (s[k].toNat : Int) ∧ (s[k].toNat : Int) ≤ 57) ∨ ¬ (((97 : Int) ≤ (s[k].toNat : Int) ∧ (s[k].toNat : Int) ≤ 122) ∨ ((48 : Int) ≤ (s[k].toNat : Int) ∧ (s[k].toNat : Int) ≤ 57)) := by omega
     rcases hX with ⟨x1, x2⟩ | ⟨x1, x2⟩ | hx
     ·have HB := hide (okN_step hks HALL.out (okB_true (.inl (by omega))))
      go_wp2
      all_goals
       go_round
       case rel => exact ⟨k + 1, by omega, by go_num, HB.out⟩
       case measure => simp [intOf]; omega
     ·have HB := hide (okN_step hks HALL.out (okB_true (.inr (.inl (by omega)))))
      go_wp2
      all_goals
       go_round
       case rel => exact ⟨k + 1, by omega, by go_num, HB.out⟩
       case measure => simp [intOf]; omega
     ·have HB := hide (okN_bad hks (okB_false (by omega)))
      have hx' : (s[k].toNat : Int) < 48 ∨ ((57 : Int) < (s[k].toNat : Int) ∧ (s[k].toNat : Int) < 97) ∨ (122 : Int) < (s[k].toNat : Int) := by omega
      clear hx
      rcases hx' with x1 | ⟨x1, x2⟩ | x1
      all_goals
       go_wp2
       all_goals
        go_ret
        exact ⟨by rw [HB.out]; rfl, rfl⟩
   ·have hr : okN s.data.toList = true := by
     have e := HALL.out
     rw [List.take_of_length_le (by have := HL.out; omega)] at e
     unfold okN
     rw [e, decide_eq_true (p := 0 < s.data.toList.length) (by have := HL.out; omega), decide_eq_true (p := s.data.toList.length ≤ 32) (by have := HL.out; omega)]
     rfl
    go_wp2
    go_ret
    exact ⟨rfl, rfl⟩
def over (o : List UInt8) (a : Nat) (m : List UInt8) : List UInt8 := o.take a ++ m ++ o.drop (a + m.length)
theorem put_plain (o m : List UInt8) (a k : Nat) (ha : a ≤ o.length) (hk : min m.length (o.length - a) = k) : (o.take a ++ m.take k ++ o.drop (a + k)) ++ m.drop k = over o a m := by
 unfold over
 by_cases h : m.length ≤ o.length - a
 ·obtain rfl : k = m.length := by omega
  rw [List.take_length, List.drop_length, List.append_nil]
 ·obtain rfl : k = o.length - a := by omega
  rw [List.drop_eq_nil_of_le (show o.length ≤ a + (o.length - a) by omega), List.drop_eq_nil_of_le (show o.length ≤ a + m.length by omega), List.append_nil, List.append_nil, List.append_assoc, List.take_append_drop]
theorem put_any {w : World} {S : Nat → Prop} {b : Nat} {F : Fl} {V : List UInt8 → Value} {D : DataW Value} (h : FilesIs w S b F V D) (hn : F.length ≤ 1000000) {s : ByteArray} (hs : s.size ≤ maxLen) {at_ : Nat} {p : Option Addr} {n c : Nat} {m : List UInt8}
  (hx : By w (.slice p n c) m) (hxs : m = [] ∨ ∀ i, (Value.slice p n c).ownBlock = some i → ¬ S i) {o : List UInt8} (ho : (get F s.data.toList).getD [] = o) (hat : at_ ≤ o.length) (hlen : o.length + m.length ≤ 140737488355328) :
  Calls Tryz.prog 77 #[.map (some b), .string s, .int .i64 at_, .slice p n c] w fun e w' => e = .returned (.tuple #[]) ∧ ∃ V' D', FilesIs w' (Ext S w w') b (put F s.data.toList (over o at_ m)) V' D' ∧ Chg w w' S := by
 have H := hide h
 obtain ⟨v, hv⟩ : ∃ v, v = (if (get F s.data.toList).isSome then V s.data.toList else .slice none 0 0) := ⟨_, rfl⟩
 have hall : w.ownsRow 0 5 1 v o.length (o.map bv) ∧ (∀ q, (Instr.lookup 91 (.map (some b)) (.string s) false).run Tryz.prog (w.drewN q) = .ok v (w.drewN q)) ∧ ∀ i, v.ownBlock = some i → ∃ bs, get F s.data.toList = some bs ∧ (V s.data.toList).ownBlock = some i := by
  rcases hg : get F s.data.toList with _ | bs
  ·rw [hg] at hv ho
   subst hv ho
   exact ⟨World.ownsRow_nil _ _ _ _, fun q => ((h.look hs).2 hg q).2, fun i hi => by cases hi⟩
  ·rw [hg] at hv ho
   subst hv ho
   exact ⟨(h.vals _ _ hg).2, fun q => ((h.look hs).1 bs hg q).2, fun i hi => ⟨bs, rfl, hi⟩⟩
 obtain ⟨hrow, hlook, hown⟩ := hall
 have hlook0 : (Instr.lookup 91 (.map (some b)) (.string s) false).run Tryz.prog w = .ok v w := hlook 0
 obtain ⟨q0, n0, c0, rfl⟩ : ∃ q n c, v = .slice q n c := (by_row hrow).sl
 obtain ⟨hn0, q1, hcut, hq1⟩ := cut_own hrow hat
 have hnc := (by_row hrow).len
 have hmm := (by_row hrow).lenMax
 have hnm := hx.len.1
 obtain ⟨L, hL⟩ : ∃ L, n0 - at_ = L := ⟨_, rfl⟩
 obtain ⟨d1, hd1⟩ : ∃ d1, c0 - at_ = d1 := ⟨_, rfl⟩
 simp only [hL, hd1] at hcut
 obtain ⟨w1, hcopy, hrow1, hg1⟩ := run_copy_put hrow hat (d1 := d1) (L := L) (by omega) hq1 hx 3
 obtain ⟨k, hk⟩ : ∃ k, min m.length L = k := ⟨_, rfl⟩
 rw [hk] at hcopy hrow1
 have hx1 : By w1 (.slice p n c) m := hx.grown hg1 (by
  rcases hxs with h1 | h1
  ·exact .inl h1
  ·refine .inr fun i hi e => h1 i hi ?_
   obtain ⟨bs, h2, h3⟩ := hown i e
   exact (h.blk _ _ _ h2 h3).1)
 obtain ⟨q2, hcut2, hx2⟩ := cut_from (k := k) hx1 (by omega)
 obtain ⟨L2, hL2⟩ : ∃ L2, n - k = L2 := ⟨_, rfl⟩
 obtain ⟨d2, hd2⟩ : ∃ d2, c - k = d2 := ⟨_, rfl⟩
 rw [hL2, hd2] at hx2
 simp only [hL2, hd2] at hcut2
 have hlen1 : (o.take at_ ++ m.take k ++ o.drop (at_ + k)).length = o.length := by
  simp only [List.length_append, List.length_take, List.length_drop]
  omega
 rw [← hlen1] at hrow1
 obtain ⟨v2, w2, happ, hrow2, hg2, hb2⟩ := run_append_own hrow1 hx2 (by rw [hlen1, List.length_drop]; omega)
 rw [put_plain o m at_ k hat (by omega)] at hrow2
 have hc : Chg w w2 (fun i => (Value.slice q0 n0 c0).ownBlock = some i) := (Chg.of_grown hg1 _ fun i hi => .inl hi).trans (Chg.of_grown hg2 (fun i => (Value.slice q0 n0 c0).ownBlock = some i) fun i hi => .inl hi) fun i hi => .inl hi
 obtain ⟨w3, V', D', hst, hF, hC⟩ := h.set hs hn hc hown hrow2 (fun i hi => by
  rcases hb2 i hi with h1 | h1
  ·exact .inl h1
  ·exact .inr (Nat.le_trans hg1.size h1))
 have HF := hide (And.intro hF hC)
 have hati : (at_ : Int) ≤ (n0 : Int) := by omega
 have hki : (k : Int) ≤ (n : Int) := by omega
 have hmm2 := hx.lenMax
 obtain ⟨q3, n3, c3, rfl⟩ : ∃ q n c, v2 = .slice q n c := (by_row hrow2).sl
 clear hrow hrow1 hrow2 hx hx1 hx2 hg1 hg2 hb2 hc hF hC hlook hown hv h H hq1 hL hd1 hL2 hd2 hlen1 hn0 hnm hk hnc
 go_enter Tryz.func77, Tryz.ntmps77
 go_wp2_with (at_builtin; refine Lib.wpList_append_run_sl _ rfl _ _ 40 rfl _ _ rfl rfl happ ?_)
 go_end0
 exact ⟨rfl, _, _, HF.out.1, HF.out.2⟩
theorem row_mono {w : World} {B n : Nat} {v : Value} {xs : List Value} (h : w.ownsRow B 5 1 v n xs) : w.ownsRow 0 5 1 v n xs := by
 refine ⟨h.1, ?_⟩
 rcases h.2 with hn | ⟨g, cap, cur, rfl, hb, rest⟩
 ·exact .inl hn
 ·exact .inr ⟨g, cap, cur, rfl, Nat.zero_le _, rest⟩
theorem cloneRow_any {w : World} {v : Value} {l : List UInt8} (h : By w v l) (hl : l.length ≤ 140737488355328) :
  Calls Tryz.prog 74 #[v] w fun e w' => ∃ v', e = .returned v' ∧ w'.ownsRow w.heap.size 5 1 v' l.length (l.map bv) ∧ Below w.heap.size w w' := by
 obtain ⟨p, c, rfl, hlc, hm, hn, hc⟩ := h
 rcases p with _ | a
 ·have h0 : l = [] := List.eq_nil_of_length_eq_zero (by have := hn rfl; omega)
  subst h0
  refine (Tryz.bytes_Clone_nil _ c w).mono fun e w' ⟨he, hw⟩ => ⟨_, he, World.ownsRow_nil _ _ _ _, ?_⟩
  rw [hw]
  exact Below.refl _ _
 ·refine (Tryz.bytes_Clone_at a l.length c (Lib.numsL l) w (by simp [Lib.numsL]) hl fun i hi => ?_).mono fun e w' ⟨v', he, hr, _, hb⟩ => ⟨v', he, ?_, hb⟩
  ·have := hc a rfl i l[i] (List.getElem?_eq_getElem hi)
   rw [this]
   simp [Lib.numsL, bv, List.getD_eq_getElem?_getD, List.getElem?_eq_getElem hi]
  ·rw [map_numsL] at hr
   exact hr
theorem drop_any {w : World} {S : Nat → Prop} {b : Nat} {F : Fl} {V : List UInt8 → Value} {D : DataW Value} (h : FilesIs w S b F V D) {s : ByteArray} (hs : s.size ≤ maxLen) :
  Calls Tryz.prog 100 #[.map (some b), .string s] w fun e w' => e = .returned (.tuple #[]) ∧ ∃ V' D', FilesIs w' (Ext S w w') b (del F s.data.toList) V' D' ∧ Chg w w' S := by
 obtain ⟨w1, hrun, hg, hF⟩ := h.drop hs 0
 have HF := hide (And.intro (hF.mono fun i hi => (Ext.sub hi : Ext S w w1 i)) (Chg.of_grown hg S fun k hk => .inl (by injection hk with hk; exact hk ▸ h.in_)))
 clear hF hg h
 go_enter Tryz.func100, Tryz.ntmps100
 go_wp2
 go_end0
 exact ⟨rfl, _, _, HF.out.1, HF.out.2⟩
theorem move_any {w : World} {S : Nat → Prop} {b : Nat} {F : Fl} {V : List UInt8 → Value} {D : DataW Value} (h : FilesIs w S b F V D) (hn : F.length ≤ 1000000) {s t : ByteArray} (hs : s.size ≤ maxLen) (ht : t.size ≤ maxLen) {o : List UInt8} (ho : get F s.data.toList = some o) :
  Calls Tryz.prog 125 #[.map (some b), .string s, .string t] w fun e w' => e = .returned (.tuple #[]) ∧ ∃ V' D', FilesIs w' (Ext S w w') b (put (del F s.data.toList) t.data.toList o) V' D' ∧ Chg w w' S := by
 have hrow := (h.vals _ _ ho).2
 have hblk := fun i => h.blk _ _ i ho
 have hap := fun k bs i hne (hk : get F k = some bs) => h.apart _ k o bs i hne ho hk
 have hlook0 : (Instr.lookup 91 (.map (some b)) (.string s) false).run Tryz.prog w = .ok (V s.data.toList) w := ((h.look hs).1 o ho 0).2
 obtain ⟨w1, hrun, hg, hF⟩ := h.drop hs 0
 have hrow1 := hrow.kept hg (by
  rcases hvo : (V s.data.toList).ownBlock with _ | i
  ·exact .inl rfl
  ·exact .inr fun e => (hblk i hvo).2 (by injection e))
 have hdl := length_del h.rises s.data.toList
 obtain ⟨w2, hst, hg2, hF2⟩ := FilesIs.store (S := S) (S' := S) (V := V) (s := t) (v := V s.data.toList) (bs := o) ht hF.map hF.size (by unfold maxLen; omega) hF.in_ hF.rises hF.keys (fun k bs _ hk => hF.vals k bs hk) (fun k bs i _ hk hi => hF.blk k bs i hk hi)
  (fun k k' bs bs' i _ _ hne h1 h2 h3 => hF.apart k k' bs bs' i hne h1 h2 h3) hrow1 (fun i hi => hi) hblk
  (fun k bs i _ hk hi => by
   rw [get_del] at hk
   by_cases e : s.data.toList = k
   ·rw [if_pos e] at hk
    cases hk
   ·rw [if_neg e] at hk
    exact hap k bs i e hk hi)
 have HF := hide (And.intro (hF2.mono fun i hi => (Ext.sub hi : Ext S w w2 i)) ((Chg.of_grown hg S fun k hk => .inl (by injection hk with hk; exact hk ▸ h.in_)).trans (Chg.of_grown hg2 S fun k hk => .inl (by injection hk with hk; exact hk ▸ h.in_)) fun k hk => .inl hk))
 obtain ⟨q3, n3, c3, hv⟩ : ∃ q n c, V s.data.toList = .slice q n c := (by_row hrow).sl
 rw [hv] at hlook0 hst
 clear hrow hblk hap hF hg hrow1 hdl hg2 hF2 h hv
 go_enter Tryz.func125, Tryz.ntmps125
 go_wp2
 go_end0
 exact ⟨rfl, _, _, HF.out.1, HF.out.2⟩
end Go.Proofs.YtgbdjcekpdfpjaaGreatDoor
namespace Go.Proofs.YtgbdjcekpdfpjaaGreatDoor
set_option maxRecDepth 200000
set_option maxHeartbeats 1000000
open Go.RowKit
def done (F : Fl) (left : Lit → Bool) : Nat := ((F.filter fun p => !left (.string p.1)).map fun p => p.2.length).sum
theorem same_string (a b : List UInt8) : (Lit.string a).sameKey (.string b) = decide (a = b) := by
 by_cases h : a = b
 ·subst h
  rw [WideAt.sameKey_self (isKey _)]
  simp
 ·rw [Maps.sameKey_ne (fun e => h (by injection e))]
  simp [h]
theorem done_step {F : Fl} (hF : Rises F) {left : Lit → Bool} {x bs : List UInt8} (hx : get F x = some bs) (hl : left (.string x) = true) :
  done F (fun z => left z && !z.sameKey (.string x)) = done F left + bs.length := by
 induction F with
 | nil => simp [get] at hx
 | cons p r ih =>
  obtain ⟨h1, h2⟩ := List.pairwise_cons.1 hF
  unfold get at hx
  unfold done at ih ⊢
  by_cases hp : p.1 = x
  ·rw [if_pos hp] at hx
   injection hx with hx
   have hr : ∀ q ∈ r, q.1 ≠ x := fun q hq e => nm_irrefl x (by have := h1 q hq; rw [e, hp] at this; exact this)
   rw [List.filter_cons_of_pos (by simp [same_string, hp]), List.filter_cons_of_neg (by rw [hp]; simp [hl])]
   have e : r.filter (fun p => !(left (.string p.1) && !(Lit.string p.1).sameKey (.string x))) = r.filter (fun p => !left (.string p.1)) := by
    apply List.filter_congr
    intro q hq
    simp [same_string, hr q hq]
   rw [e, List.map_cons, List.sum_cons, hx]
   omega
  ·rw [if_neg hp] at hx
   have := ih h2 hx
   by_cases hlp : left (.string p.1) = true
   ·rw [List.filter_cons_of_neg (by simp [same_string, hp, hlp]), List.filter_cons_of_neg (by simp [hlp])]
    exact this
   ·rw [List.filter_cons_of_pos (by simp [same_string, hp, hlp]), List.filter_cons_of_pos (by simp [hlp]), List.map_cons, List.map_cons, List.sum_cons, List.sum_cons, this]
    omega
theorem done_all {F : Fl} {left : Lit → Bool} (h : ∀ k, left k = false) : done F left = total F := by
 unfold done total
 rw [List.filter_eq_self.2 (fun p _ => by rw [h]; rfl)]
theorem done_none {F : Fl} {left : Lit → Bool} (h : ∀ p ∈ F, left (.string p.1) = true) : done F left = 0 := by
 unfold done
 rw [List.filter_eq_nil_iff.2 (fun p hp => by rw [h p hp]; simp)]
 rfl
theorem done_le (F : Fl) (left : Lit → Bool) : done F left ≤ total F := by
 induction F with
 | nil => exact Nat.le_refl _
 | cons p r ih =>
  unfold done total at ih ⊢
  by_cases h : left (.string p.1) = true
  ·rw [List.filter_cons_of_neg (by simp [h]), List.map_cons, List.sum_cons]
   omega
  ·rw [List.filter_cons_of_pos (by simp [h]), List.map_cons, List.sum_cons, List.map_cons, List.sum_cons]
   omega
theorem keyS_inv {key : Value} {kl : Lit} (h : keyOf Tryz.prog 9 key = some kl) : ∃ x : ByteArray, key = .string x := by
 have h9 : Tryz.prog.underlying 9 = some .string := Tryz.underlying9
 cases key <;> simp [keyOf, h9, mapKey] at h
 exact ⟨_, rfl⟩
theorem FilesIs.came {w : World} {S : Nat → Prop} {b : Nat} {F : Fl} {V : List UInt8 → Value} {D : DataW Value} (h : FilesIs w S b F V D) {x : ByteArray} {v : Value} {kl : Lit} {y : DataW Value × List MemPlace}
  (hk : keyOf Tryz.prog 9 (.string x) = some kl) (hv : held v = some y) (hat : ∀ zd, D.atKey kl zd = y.1) : kl = .string x.data.toList ∧ x.size ≤ maxLen ∧ ∃ bs, get F x.data.toList = some bs ∧ v = V x.data.toList := by
 have h9 : Tryz.prog.underlying 9 = some .string := Tryz.underlying9
 have hkl : kl = .string x.data.toList ∧ x.size ≤ maxLen := by
  simp [keyOf, h9, mapKey] at hk
  exact ⟨hk.2.symm, hk.1⟩
 obtain ⟨rfl, hx⟩ := hkl
 have hh := Maps.has_true_of_atKey hat
 rw [h.keys] at hh
 obtain ⟨bs, hbs⟩ := Option.isSome_iff_exists.1 hh
 refine ⟨rfl, hx, bs, hbs, ?_⟩
 have e1 := (h.vals _ bs hbs).1 .nil
 rw [hat, (held_slice hv).2] at e1
 injection e1
theorem size_any {w : World} {S : Nat → Prop} {b : Nat} {F : Fl} {V : List UInt8 → Value} {D : DataW Value} (h : FilesIs w S b F V D) (ht : total F ≤ 140737488355328) :
  Calls Tryz.prog 107 #[.map (some b)] w fun e w' => e = .returned (.int .i64 (total F : Nat)) ∧ Below w.heap.size w w' := by
 have H := hide h
 have hown := h.map
 have HT := hide ht
 clear h ht
 go_enter Tryz.func107, Tryz.ntmps107
 go_wp2_with (first | (at_range; refine wpList_range_own _ rfl _ 91 rfl 9 40 strK Tryz.underlying91 _ b F.length D rfl hown ?_; intro w0 hrg0 hg0 hs0) | go_in)
 go_frame
 have hB0 : Below w.heap.size w w0 := ⟨hg0.os, hg0.tape, hg0.output, hg0.size, fun k hk => hg0.block k hk (by simp)⟩
 have hd0 : done F (Maps.has D) = 0 := done_none fun p hp => by
  rw [H.out.keys, get_of_mem H.out.rises (show (p.1, p.2) ∈ F from hp)]
  rfl
 have HRG := hide hrg0
 have HB0 := hide hB0
 have HD0 := hide hd0
 clear hrg0 hg0 hB0 hd0 hs0 hown
 go_loopw [3] (fun n wr => ∃ left cnt, wr.ranges Tryz.prog 9 held b w.heap.size F.length D left cnt ∧ n = .int .i64 (done F left : Nat) ∧ Below w.heap.size w wr) (fun _ wr => wr.rangeLeft b w.heap.size)
 case atStart => exact ⟨_, _, HRG.out, by rw [HD0.out]; rfl, HB0.out⟩
 case round =>
  obtain ⟨left, cnt, hrg, rfl, hB⟩ := hrel
  have hdl := done_le F left
  have hle : ((done F left : Nat) : Int) ≤ 140737488355328 := by have := HT.out; omega
  have HB := hide hB
  have HRG2 := hide hrg
  clear hdl hB
  go_wp2_with (first | (at_next; refine wpList_next_ranges _ rfl _ rfl 9 strK held Value.string (fun c : Option Addr × Nat × Nat => .slice c.1 c.2.1 c.2.2) (fun key kl h => keyS_inv h) (fun v y h => (held_slice h).1) b w.heap.size F.length D left cnt rfl hrg ?_ ?_) | go_in)
  ·intro hc0 hl0
   have hda := done_all (F := F) hl0
   rw [hda]
   clear hrg hda
   go_wp2
   go_ret
   exact ⟨rfl, HB.out⟩
  ·intro x c1 c2 c3 kl y1 ps w1 cnt1 hkey hlk hv hat hrg1 hlt hg1 hs1 hen
   obtain ⟨rfl, hx, bs, hbs, hvx⟩ := H.out.came hkey hv hat
   have hst := done_step H.out.rises hbs hlk
   have hlen : c2 = bs.length := by
    have := (by_row (H.out.vals _ bs hbs).2)
    rw [← hvx] at this
    exact this.len.1
   have hB1 := HB.out.grown hg1 HB.out.size (fun k hk => by injection hk with hk; omega)
   have hd2 := done_le F (fun z => left z && !z.sameKey (.string x.data.toList))
   have hsum : ((done F left : Nat) : Int) + (c2 : Int) ≤ 9223372036854775807 := by have := HT.out; omega
   have HS := hide hst
   have HL := hide hlen
   have HR1 := hide hrg1
   have HB1 := hide hB1
   have HLT := hide hlt
   clear hst hlen hrg1 hB1 hrg hvx hbs hkey hv hat hlk hg1 hs1 hd2 hlt
   go_wp2
   go_roundw
   case rel => exact ⟨_, _, HR1.out, by rw [HS.out, ← HL.out]; go_num, HB1.out⟩
   case measure => rw [HR1.out.left_eq, HRG2.out.left_eq]; exact HLT.out
def some_ (F : Fl) (left : Lit → Bool) : Fl := F.filter fun p => !left (.string p.1)
theorem get_some (F : Fl) (left : Lit → Bool) (x : List UInt8) : get (some_ F left) x = if left (.string x) then none else get F x := by
 induction F with
 | nil => simp [some_, get]
 | cons p r ih =>
  unfold some_ at ih ⊢
  by_cases hp : left (.string p.1) = true
  ·rw [List.filter_cons_of_neg (by simp [hp]), ih]
   by_cases hx : p.1 = x
   ·rw [hx] at hp
    rw [if_pos hp, if_pos hp]
   ·conv => rhs; unfold get
    rw [if_neg hx]
  ·rw [List.filter_cons_of_pos (by simp [hp])]
   unfold get
   rw [ih]
   by_cases hx : p.1 = x
   ·rw [if_pos hx, if_pos hx, ← hx, if_neg hp]
   ·rw [if_neg hx, if_neg hx]
theorem Rises.some_ {F : Fl} (h : Rises F) (left : Lit → Bool) : Rises (some_ F left) := List.Pairwise.filter _ h
theorem some_step {F : Fl} (hF : Rises F) {left : Lit → Bool} {x bs : List UInt8} (hx : get F x = some bs) : put (some_ F left) x bs = some_ F (fun z => left z && !z.sameKey (.string x)) :=
 ((hF.some_ left).put x bs).ext (hF.some_ _) fun y => by
  rw [get_put, get_some, get_some, same_string]
  by_cases h : x = y
  ·subst h
   simp [hx]
  ·rw [if_neg h]
   have : decide (y = x) = false := decide_eq_false fun e => h e.symm
   rw [this]
   simp
theorem some_all {F : Fl} {left : Lit → Bool} (h : ∀ k, left k = false) : some_ F left = F := List.filter_eq_self.2 fun p _ => by rw [h]; rfl
theorem some_none {F : Fl} {left : Lit → Bool} (h : ∀ p ∈ F, left (.string p.1) = true) : some_ F left = [] := List.filter_eq_nil_iff.2 fun p hp => by rw [h p hp]; simp
theorem some_le (F : Fl) (left : Lit → Bool) : (some_ F left).length ≤ F.length := List.length_filter_le _ _
theorem FilesIs.none_ {w : World} {b : Nat} {S : Nat → Prop} {V : List UInt8 → Value} (hm : w.ownsMap Tryz.prog 9 held b 0 (.map [])) (hS : S b) : FilesIs w S b [] V (.map []) :=
 ⟨hm, rfl, hS, List.Pairwise.nil, fun k => rfl, fun k bs h => by simp [get] at h, fun k bs i h => by simp [get] at h, fun k k' bs bs' i _ h => by simp [get] at h⟩
theorem ranges_chg {H : Type} {P : Program} {k : TypeId} {R : Value → Option (DataW H × List MemPlace)} {w w' : World} {S : Nat → Prop} {b r n : Nat} {D : DataW H} {left : Lit → Bool} {cnt : Nat} (h : w.ranges P k R b r n D left cnt) (hc : Chg w w' S) (hb : ¬ S b) (hr : ¬ S r) : w'.ranges P k R b r n D left cnt := by
 have h1 := h.owns.lt
 have h2 := h.lt
 obtain ⟨es, clock, since, seen, c0, hb', F, hs, hD, hr', rest⟩ := h
 exact ⟨es, clock, since, seen, c0, (hc.block b h1 hb).trans hb', F, hs, hD, (hc.block r h2 hr).trans hr', rest⟩
theorem run_makeMap_any (w : World) (n : Nat) : (Instr.makeMap 91 (some (.int .i64 (n : Int)))).run Tryz.prog w = .ok (.map (some w.heap.size)) (w.alloc (.map #[] 0)) := by
 simp [Instr.makeMap, run_underlying Tryz.underlying91, asInt, asIntOf]
theorem filesClone_any {w : World} {S : Nat → Prop} {b : Nat} {F : Fl} {V : List UInt8 → Value} {D : DataW Value} (h : FilesIs w S b F V D) (hS : ∀ i, S i → i < w.heap.size) (hn : F.length ≤ 1000000) (ht : ∀ p ∈ F, p.2.length ≤ 140737488355328) :
  Calls Tryz.prog 94 #[.map (some b)] w fun e w' => ∃ b', e = .returned (.map (some b')) ∧ Below w.heap.size w w' ∧ ∃ V' D', FilesIs w' (fun i => w.heap.size ≤ i ∧ i < w'.heap.size) b' F V' D' := by
 have H := hide h
 have hown := h.map
 have hlen0 := h.map.len Tryz.underlying91 3
 have hsz := h.size
 have HT := hide ht
 clear h ht
 go_enter Tryz.func94, Tryz.ntmps94
 have hmk := run_makeMap_any w F.length
 go_wp2_with (first | (at_range; have hown1 := hown.alloc (.map #[] 0); refine wpList_range_own _ rfl _ 91 rfl 9 40 strK Tryz.underlying91 _ b F.length D rfl hown1 ?_; intro w0 hrg0 hg0 hs0) | go_in)
 go_frame
 obtain ⟨B, hBdef⟩ : ∃ B, w.heap.size = B := ⟨_, rfl⟩
 have hsz1 : (w.alloc (.map #[] 0)).heap.size = B + 1 := by rw [size_alloc', hBdef]
 rw [hsz1] at hrg0 hs0
 rw [hsz1]
 have hmade := World.ownsMap_made w Tryz.prog 9 held
 rw [hBdef] at hmade
 have hm0 : w0.ownsMap Tryz.prog 9 held B 0 (.map []) := hmade.kept hg0 (by simp)
 have hB0 : Below B w w0 := ((Below.refl B w).alloc (by omega) _).trans ⟨hg0.os, hg0.tape, hg0.output, hg0.size, fun k hk => hg0.block k (by rw [hsz1]; omega) (by simp)⟩
 have hd0 : some_ F (Maps.has D) = [] := some_none fun p hp => by
  rw [H.out.keys, get_of_mem H.out.rises (show (p.1, p.2) ∈ F from hp)]
  rfl
 have hF0 : FilesIs w0 (fun i => B ≤ i ∧ i < w0.heap.size ∧ i ≠ B + 1) B (some_ F (Maps.has D)) V (.map []) := by
  rw [hd0]
  exact FilesIs.none_ hm0 ⟨Nat.le_refl _, by omega, by omega⟩
 have HRG := hide hrg0
 have HF0 := hide hF0
 have HB0 := hide hB0
 rw [hBdef]
 clear hrg0 hg0 hB0 hd0 hs0 hown hF0 hm0 hmade hsz1 hlen0 hmk
 go_loopw [] (fun wr => ∃ left cnt Vc Dc, wr.ranges Tryz.prog 9 held b (B + 1) F.length D left cnt ∧ FilesIs wr (fun i => B ≤ i ∧ i < wr.heap.size ∧ i ≠ B + 1) B (some_ F left) Vc Dc ∧ Below B w wr) (fun wr => wr.rangeLeft b (B + 1))
 case atStart => exact ⟨_, _, _, _, HRG.out, HF0.out, HB0.out⟩
 case round =>
  obtain ⟨left, cnt, Vc, Dc, hrg, hfc, hB⟩ := hrel
  have HFC := hide hfc
  have HB := hide hB
  have HRG2 := hide hrg
  have hSB : ∀ i, S i → i < B := fun i hi => by rw [← hBdef]; exact hS i hi
  have hsrc := H.out.chg (T := fun _ => False) (w' := wr) ⟨hB.os, hB.tape, hB.output, hB.size, fun k hk _ => hB.block k (by omega)⟩ (fun i _ h => h)
  have HSRC := hide hsrc
  have hblt : b < B := hSB b H.out.in_
  clear hfc hB hsrc
  go_wp2_with (first | (at_next; refine wpList_next_ranges _ rfl _ rfl 9 strK held Value.string (fun c : Option Addr × Nat × Nat => .slice c.1 c.2.1 c.2.2) (fun key kl h => keyS_inv h) (fun v y h => (held_slice h).1) b (B + 1) F.length D left cnt rfl hrg ?_ ?_) | go_in)
  ·intro hc0 hl0
   have hfin := HFC.out
   rw [some_all hl0] at hfin
   have HFIN := hide hfin
   clear hrg hfin
   go_wp2
   go_ret
   rw [hBdef]
   exact ⟨B, rfl, HB.out, Vc, Dc, HFIN.out.mono fun i hi => ⟨hi.1, hi.2.1⟩⟩
  ·intro x c1 c2 c3 kl y1 ps w1 cnt1 hkey hlk hv hat hrg1 hlt hg1 hs1 hen
   obtain ⟨rfl, hx, bs, hbs, hvx⟩ := H.out.came hkey hv hat
   have hc1 : Chg wr w1 (fun i => i = B + 1) := Chg.of_grown hg1 _ fun k hk => .inl (by injection hk with hk; exact hk.symm)
   have hs1' := HSRC.out.chg hc1 (fun i hi e => by have := hSB i hi; omega)
   have hby1 : By w1 (.slice c1 c2 c3) bs := by
    rw [hvx]
    exact by_row (hs1'.vals _ bs hbs).2
   have hfc1 := HFC.out.chg hc1 (fun i hi e => hi.2.2 e)
   have hbl := HT.out _ (get_mem hbs)
   have hsl := some_le F left
   have hput := some_step H.out.rises (left := left) hbs
   have hB1 := HB.out.grown hg1 (by rw [← hBdef]; exact HB.out.size) (fun k hk => by injection hk with hk; omega)
   have HFC1 := hide hfc1
   have HBY1 := hide hby1
   have HR1 := hide hrg1
   have HB1 := hide hB1
   have HP := hide hput
   have HLT := hide hlt
   have HX := hide hx
   have HSZ := hide hs1
   have HRL := hide hrg.lt
   clear hrg hrg1 hs1' hc1 hby1 hfc1 hput hB1 hvx hbs hkey hv hat hlk hg1 hs1 hlt hx
   go_wp2_with fail
   refine (cloneRow_any HBY1.out hbl).mono ?_
   rintro e w2 ⟨v2, rfl, hr2, hb2⟩
   obtain ⟨w3, V', D', hst, hF3, hC3⟩ := HFC1.out.set HX.out (by omega) (T := fun _ => False) (Chg.of_below hb2 _) (fun i hi => hi.elim) (row_mono hr2) (fun i hi => .inr (hr2.lt i hi).1)
   rw [HP.out] at hF3
   obtain ⟨q3, n3, c3', rfl⟩ : ∃ q n c, v2 = .slice q n c := (by_row (row_mono hr2)).sl
   have hlt1 : B + 1 < w1.heap.size := by have := HSZ.out; have := HRL.out; omega
   have HF3 := hide (hF3.mono (S' := fun i => B ≤ i ∧ i < w3.heap.size ∧ i ≠ B + 1) fun i hi => by
    have := hC3.size
    have := HSZ.out
    rcases hi with hi | hi
    ·exact ⟨hi.1, by omega, hi.2.2⟩
    ·exact ⟨by omega, hi.2, by omega⟩)
   have HR3 := hide (ranges_chg HR1.out hC3 (fun h => by have := h.1; omega) (fun h => h.2.2 rfl))
   have HB3 := hide (show Below B w w3 from ⟨hC3.os.trans HB1.out.os, hC3.tape.trans HB1.out.tape, hC3.output.trans HB1.out.output, Nat.le_trans HB1.out.size hC3.size, fun k hk => (hC3.block k (by omega) (fun h => by have := h.1; omega)).trans (HB1.out.block k hk)⟩)
   clear hr2 hb2 hF3 hC3
   go_wp2
   go_roundw
   case rel => exact ⟨_, _, _, _, HR3.out, HF3.out, HB3.out⟩
   case measure => rw [HR3.out.left_eq, HRG2.out.left_eq]; exact HLT.out
end Go.Proofs.YtgbdjcekpdfpjaaGreatDoor
namespace Go.Proofs.YtgbdjcekpdfpjaaGreatDoor
set_option maxRecDepth 200000
set_option maxHeartbeats 400000
open Go.RowKit
def diskC (room used : Int) (down : Bool) (l s : Value) (a : Value) (n keep tear : Int) : Array Value :=
 #[.int .i64 room, .int .i64 used, .bool down, l, s, a, .int .i64 n, .int .i64 keep, .int .i64 tear]
def Hd (w : World) (g : Nat) (room used : Int) (down : Bool) (l s : Value) (a : Value) (n keep tear : Int) : Prop := w.heap[g]? = some (.cells (diskC room used down l s a n keep tear) 96 (0, 0))
section
variable {w : World} {g : Nat} {room used : Int} {down : Bool} {l s a : Value} {n keep tear : Int}
theorem Hd.c0 (h : Hd w g room used down l s a n keep tear) : w.cell? ⟨g, 0, none⟩ = some (.int .i64 room) := by rw [cell_of_row w g 0 _ 96 (0, 0) h]; rfl
theorem Hd.c1 (h : Hd w g room used down l s a n keep tear) : w.cell? ⟨g, 1, none⟩ = some (.int .i64 used) := by rw [cell_of_row w g 1 _ 96 (0, 0) h]; rfl
theorem Hd.c2 (h : Hd w g room used down l s a n keep tear) : w.cell? ⟨g, 2, none⟩ = some (.bool down) := by rw [cell_of_row w g 2 _ 96 (0, 0) h]; rfl
theorem Hd.c3 (h : Hd w g room used down l s a n keep tear) : w.cell? ⟨g, 3, none⟩ = some l := by rw [cell_of_row w g 3 _ 96 (0, 0) h]; rfl
theorem Hd.c4 (h : Hd w g room used down l s a n keep tear) : w.cell? ⟨g, 4, none⟩ = some s := by rw [cell_of_row w g 4 _ 96 (0, 0) h]; rfl
theorem Hd.c5 (h : Hd w g room used down l s a n keep tear) : w.cell? ⟨g, 5, none⟩ = some a := by rw [cell_of_row w g 5 _ 96 (0, 0) h]; rfl
theorem Hd.c6 (h : Hd w g room used down l s a n keep tear) : w.cell? ⟨g, 6, none⟩ = some (.int .i64 n) := by rw [cell_of_row w g 6 _ 96 (0, 0) h]; rfl
theorem Hd.c7 (h : Hd w g room used down l s a n keep tear) : w.cell? ⟨g, 7, none⟩ = some (.int .i64 keep) := by rw [cell_of_row w g 7 _ 96 (0, 0) h]; rfl
theorem Hd.c8 (h : Hd w g room used down l s a n keep tear) : w.cell? ⟨g, 8, none⟩ = some (.int .i64 tear) := by rw [cell_of_row w g 8 _ 96 (0, 0) h]; rfl
theorem Hd.fr (h : Hd w g room used down l s a n keep tear) (i : Nat) : w.frozen? ⟨g, i, none⟩ = false := frozen_of_row w g i _ 96 h
theorem Hd.lt (h : Hd w g room used down l s a n keep tear) : g < w.heap.size := World.block_lt_of_cell? w _ h.c0
theorem Hd.chg {w' : World} {S : Nat → Prop} (h : Hd w g room used down l s a n keep tear) (hc : Chg w w' S) (hg : ¬ S g) : Hd w' g room used down l s a n keep tear := (hc.block g h.lt hg).trans h
end
def pow (down : Bool) : Nat := if down then 22 else 0
theorem neq_nilMap (w : World) (b : Nat) : (binOp .neq 91 (.map (some b)) (.map none)).run Tryz.prog w = .ok (.bool true) w := by kernel_rfl
theorem made_any {w : World} {g b : Nat} (h3 : w.cell? ⟨g, 3, none⟩ = some (.map (some b))) : Calls Tryz.prog 66 #[.pointer (some ⟨g, 0, none⟩)] w fun e w' => e = .returned (.bool true) ∧ w = w' := by
 go_enter Tryz.func66, Tryz.ntmps66
 have hne := neq_nilMap w b
 go_wp2
 go_ret
 exact ⟨rfl, rfl⟩
theorem power_any {w : World} {g b : Nat} {down : Bool} (h2 : w.cell? ⟨g, 2, none⟩ = some (.bool down)) (h3 : w.cell? ⟨g, 3, none⟩ = some (.map (some b))) : Calls Tryz.prog 53 #[.pointer (some ⟨g, 0, none⟩)] w fun e w' => e = .returned (.int .i64 (pow down : Nat)) ∧ w = w' := by
 cases down
 all_goals
  go_enter Tryz.func53, Tryz.ntmps53
  go_wp2_with fail
  refine (made_any h3).mono ?_
  rintro e w1 ⟨rfl, rfl⟩
  go_wp2
  go_ret
  exact ⟨rfl, rfl⟩
def rdy (down : Bool) (k : List UInt8) : Nat := if down then 22 else if okN k then 0 else 20
theorem ready_any {w : World} {g b : Nat} {down : Bool} (h2 : w.cell? ⟨g, 2, none⟩ = some (.bool down)) (h3 : w.cell? ⟨g, 3, none⟩ = some (.map (some b))) (s : ByteArray) : Calls Tryz.prog 73 #[.pointer (some ⟨g, 0, none⟩), .string s] w fun e w' => e = .returned (.int .i64 (rdy down s.data.toList : Nat)) ∧ w = w' := by
 cases down
 ·cases hk : okN s.data.toList
  all_goals
   go_enter Tryz.func73, Tryz.ntmps73
   go_wp2_with fail
   refine (power_any h2 h3).mono ?_
   rintro e w1 ⟨rfl, rfl⟩
   rw [show ((pow false : Nat) : Int) = 0 from rfl]
   go_wp2_with fail
   refine (named_any s w).mono ?_
   rintro e w1 ⟨rfl, rfl⟩
   rw [hk]
   go_wp2
   go_ret
   exact ⟨by unfold rdy; rw [hk]; rfl, rfl⟩
 ·go_enter Tryz.func73, Tryz.ntmps73
  go_wp2_with fail
  refine (power_any h2 h3).mono ?_
  rintro e w1 ⟨rfl, rfl⟩
  rw [show ((pow true : Nat) : Int) = 22 from rfl]
  go_wp2
  go_ret
  exact ⟨rfl, rfl⟩
theorem Hd.set {w : World} {g : Nat} {cs : Array Value} (h : w.heap[g]? = some (.cells cs 96 (0, 0))) (i : Nat) (x : Value) : (w.setCell ⟨g, i, none⟩ x).heap[g]? = some (.cells (cs.setIfInBounds i x) 96 (0, 0)) := heap_setCell_same w g i cs 96 x h
theorem struck_any {w : World} {g : Nat} {room used : Int} {down : Bool} {l s a : Value} {n : Nat} {keep tear : Int} (h : Hd w g room used down l s a n keep tear) (hn : (n : Int) ≤ 9223372036854775807) :
  Calls Tryz.prog 84 #[.pointer (some ⟨g, 0, none⟩)] w fun e w' => e = .returned (.bool (n == 1)) ∧ Hd w' g room used down l s a ((n - 1 : Nat) : Int) keep tear ∧ w.grownBy w' (some g) := by
 have h6 := h.c6
 have f6 := h.fr 6
 have H := hide h
 clear h
 by_cases h0 : n = 0
 ·subst h0
  replace h6 : w.cell? ⟨g, 6, none⟩ = some (.int .i64 0) := h6
  go_enter Tryz.func84, Tryz.ntmps84
  go_wp2
  go_ret
  exact ⟨rfl, H.out, World.grownBy.refl _ _⟩
 ·have g0 : ((n : Int) == 0) = false := ieq_false (by omega)
  have HE1 := hide (show (n : Int) - 1 = ((n - 1 : Nat) : Int) by omega)
  have hn1 : (1 : Int) ≤ (n : Int) := by omega
  have e2 : (((n : Int) - 1) == 0) = (n == 1) := by
   rw [Bool.eq_iff_iff, beq_iff_eq, beq_iff_eq]
   omega
  go_enter Tryz.func84, Tryz.ntmps84
  go_wp2
  go_ret
  refine ⟨rfl, ?_, grown_set _ _ _ _⟩
  have := Hd.set H.out 6 (.int .i64 ((n : Int) - 1))
  rw [HE1.out] at this ⊢
  exact this
end Go.Proofs.YtgbdjcekpdfpjaaGreatDoor
namespace Go.Proofs.YtgbdjcekpdfpjaaGreatDoor
open Go.RowKit
inductive Deed where
 | put (k : List UInt8) (at_ : Nat) (b : List UInt8)
 | trim (k : List UInt8) (n : Nat)
 | move (k t : List UInt8)
 | drop (k : List UInt8)
def Deed.size : Deed → Nat
 | .put _ _ b => b.length
 | _ => 0
def Deed.run (F : Fl) (tear : Nat) : Deed → Fl
 | .put k a b => Go.Proofs.YtgbdjcekpdfpjaaGreatDoor.put F k (over ((get F k).getD []) a (b.take (b.length - tear)))
 | .trim k n => Go.Proofs.YtgbdjcekpdfpjaaGreatDoor.put F k (((get F k).getD []).take n)
 | .move k t => Go.Proofs.YtgbdjcekpdfpjaaGreatDoor.put (del F k) t ((get F k).getD [])
 | .drop k => del F k
def Deed.fits (F : Fl) : Deed → Prop
 | .put k a b => a ≤ ((get F k).getD []).length ∧ ((get F k).getD []).length + b.length ≤ 140737488355328
 | .trim k n => ∃ o, get F k = some o ∧ n ≤ o.length ∧ o.length ≤ 140737488355328
 | .move k _ => ∃ o, get F k = some o
 | .drop _ => True
inductive DeedAt (w : World) (C : Nat → Prop) : Nat → Array Value → Deed → Prop where
 | put {i j l at_ : Nat} {s : ByteArray} {p : Option Addr} {n c : Nat} {b : List UInt8} (h1 : w.cell? ⟨i, 0, none⟩ = some (.string s)) (h2 : w.cell? ⟨j, 0, none⟩ = some (.int .i64 at_)) (h3 : w.cell? ⟨l, 0, none⟩ = some (.slice p n c)) (hb : By w (.slice p n c) b)
   (hs : s.size ≤ maxLen) (c1 : C i) (c2 : C j) (c3 : C l) (c4 : b = [] ∨ ∀ k, (Value.slice p n c).ownBlock = some k → C k) : DeedAt w C 76 #[.pointer (some ⟨i, 0, none⟩), .pointer (some ⟨j, 0, none⟩), .pointer (some ⟨l, 0, none⟩)] (.put s.data.toList at_ b)
 | move {i j : Nat} {s t : ByteArray} (h1 : w.cell? ⟨i, 0, none⟩ = some (.string s)) (h2 : w.cell? ⟨j, 0, none⟩ = some (.string t)) (hs : s.size ≤ maxLen) (ht : t.size ≤ maxLen) (c1 : C i) (c2 : C j) : DeedAt w C 124 #[.pointer (some ⟨i, 0, none⟩), .pointer (some ⟨j, 0, none⟩)] (.move s.data.toList t.data.toList)
 | drop {i : Nat} {s : ByteArray} (h1 : w.cell? ⟨i, 0, none⟩ = some (.string s)) (hs : s.size ≤ maxLen) (c1 : C i) : DeedAt w C 99 #[.pointer (some ⟨i, 0, none⟩)] (.drop s.data.toList)
theorem DeedAt.chg {w w' : World} {C T : Nat → Prop} {f : Nat} {cs : Array Value} {d : Deed} (h : DeedAt w C f cs d) (hc : Chg w w' T) (hd : ∀ i, C i → ¬ T i) : DeedAt w' C f cs d := by
 cases h with
 | put h1 h2 h3 hb hs c1 c2 c3 c4 =>
  exact .put (hc.cell h1 (hd _ c1)) (hc.cell h2 (hd _ c2)) (hc.cell h3 (hd _ c3)) (hb.chg hc (by
   rcases c4 with h | h
   ·exact .inl h
   ·exact .inr fun k hk => hd k (h k hk))) hs c1 c2 c3 c4
 | move h1 h2 hs ht c1 c2 => exact .move (hc.cell h1 (hd _ c1)) (hc.cell h2 (hd _ c2)) hs ht c1 c2
 | drop h1 hs c1 => exact .drop (hc.cell h1 (hd _ c1)) hs c1
theorem DeedAt.mono {w : World} {C C' : Nat → Prop} {f : Nat} {cs : Array Value} {d : Deed} (h : DeedAt w C f cs d) (hd : ∀ i, C i → C' i) : DeedAt w C' f cs d := by
 cases h with
 | put h1 h2 h3 hb hs c1 c2 c3 c4 =>
  exact .put h1 h2 h3 hb hs (hd _ c1) (hd _ c2) (hd _ c3) (by
   rcases c4 with h | h
   ·exact .inl h
   ·exact .inr fun k hk => hd k (h k hk))
 | move h1 h2 hs ht c1 c2 => exact .move h1 h2 hs ht (hd _ c1) (hd _ c2)
 | drop h1 hs c1 => exact .drop h1 hs (hd _ c1)
def DeedPost (w : World) (S : Nat → Prop) (b : Nat) (F : Fl) (e : Ending) (w' : World) : Prop := e = .returned (.tuple #[]) ∧ ∃ V' D', FilesIs w' (Ext S w w') b F V' D' ∧ Chg w w' S
theorem files_drewN {w : World} {S : Nat → Prop} {b : Nat} {F : Fl} {V : List UInt8 → Value} {D : DataW Value} (h : FilesIs w S b F V D) (q : Nat) : FilesIs (w.drewN q) S b F V D := h.chg ((Chg.refl w fun _ => False).drewN q) fun _ _ h => h
theorem deedPost_drewN {w : World} {S : Nat → Prop} {b : Nat} {F : Fl} {q : Nat} {e : Ending} {w' : World} (h : DeedPost (w.drewN q) S b F e w') : DeedPost w S b F e w' := by
 obtain ⟨he, V', D', hF, hC⟩ := h
 exact ⟨he, V', D', hF, hC.os, hC.tape, hC.output, hC.size, hC.block⟩
set_option maxRecDepth 200000 in
set_option maxHeartbeats 1000000 in
theorem deed_any {w : World} {S C : Nat → Prop} {b : Nat} {F : Fl} {V : List UInt8 → Value} {D : DataW Value} (h : FilesIs w S b F V D) (hn : F.length ≤ 1000000) {f : Nat} {cs : Array Value} {d : Deed} (hd : DeedAt w C f cs d) (hCS : ∀ i, C i → ¬ S i) (hf : d.fits F) {tear : Nat} (ht : tear ≤ d.size) :
  Calls Tryz.prog f (#[.map (some b), .int .i64 tear] ++ cs) w (DeedPost w S b (d.run F tear)) := by
 cases hd with
 | @put i j l at_ s p n c bs h1 h2 h3 hb hs c1 c2 c3 c4 =>
  have hnb := hb.len
  have hmm := hb.lenMax
  have hti : (tear : Int) ≤ (n : Int) := by unfold Deed.size at ht; simp only at ht; omega
  obtain ⟨L, hL⟩ : ∃ L, n - tear = L := ⟨_, rfl⟩
  have hLn : (n : Int) - (tear : Int) = (L : Int) := by omega
  have hw1 : IntKind.i64.wrap (L : Int) = (L : Int) := by rw [IntKind.wrap_i64]; omega
  have hw2 : IntKind.i64.wrap ((n : Int) - (tear : Int)) = (L : Int) := by rw [hLn]; exact hw1
  have hLi : (L : Int) ≤ (n : Int) := by omega
  have hcut := fun W => run_cut_to W p n c L (by omega)
  have hx := cut_to hb (k := L) (by omega)
  have hxs : bs.take L = [] ∨ ∀ i, (Value.slice p L c).ownBlock = some i → ¬ S i := by
   rcases c4 with h | h
   ·exact .inl (by rw [h]; simp)
   ·exact .inr fun k hk => hCS k (h k (by
     cases p with
     | none => cases hk
     | some a => exact hk))
  have hput := fun q => put_any (files_drewN h q) hn hs (at_ := at_) (hx.drewN q) hxs rfl hf.1 (by have := hf.2; rw [List.length_take]; omega)
  have hput2 : ∀ V, (∃ q, V = w.drewN q) → Calls Tryz.prog 77 #[.map (some b), .string s, .int .i64 at_, .slice p L c] V fun e w' => DeedPost w S b (put F s.data.toList (over ((get F s.data.toList).getD []) at_ (bs.take L))) e w' ∧ w'.cell? ⟨i, 0, none⟩ = some (.string s) ∧ w'.cell? ⟨j, 0, none⟩ = some (.int .i64 at_) ∧ w'.cell? ⟨l, 0, none⟩ = some (.slice p n c) := by
   rintro V ⟨q, rfl⟩
   refine (hput q).mono fun e w' hp => ⟨deedPost_drewN hp, ?_⟩
   obtain ⟨_, _, _, _, hc⟩ := hp
   exact ⟨hc.cell (w := w.drewN q) h1 (hCS _ c1), hc.cell (w := w.drewN q) h2 (hCS _ c2), hc.cell (w := w.drewN q) h3 (hCS _ c3)⟩
  have HPUT := hide hput2
  have e0 : Deed.run F tear (.put s.data.toList at_ bs) = put F s.data.toList (over ((get F s.data.toList).getD []) at_ (bs.take L)) := by
   show put F _ (over _ at_ (bs.take (bs.length - tear))) = _
   rw [← hnb.1, hL]
  rw [e0]
  clear hput hput2 hx hxs hb h hf ht hnb hL e0 hCS c4
  show Calls Tryz.prog 76 #[.map (some b), .int .i64 tear, .pointer (some ⟨i, 0, none⟩), .pointer (some ⟨j, 0, none⟩), .pointer (some ⟨l, 0, none⟩)] w _
  go_enter Tryz.func76, Tryz.ntmps76
  go_wp2_with fail
  go_region_held3 (fun W => W.cell? ⟨i, 0, none⟩ = some (.string s) ∧ W.cell? ⟨j, 0, none⟩ = some (.int .i64 at_) ∧ W.cell? ⟨l, 0, none⟩ = some (.slice p n c)) (first | exact ⟨h1, h2, h3⟩ | exact hcc) (first
   | (go_at_call 77; refine (HPUT.out _ (by first | exact ⟨_, rfl⟩ | exact ⟨0, rfl⟩ | exact ⟨1, rfl⟩)).mono ?_; rintro e w1 ⟨⟨rfl, hpost⟩, hcc⟩))
  all_goals
   go_end0
   exact ⟨rfl, hpost⟩
 | @move i j s t h1 h2 hs ht2 c1 c2 =>
  have hop := fun q => (by obtain ⟨o, ho⟩ := hf; rw [ho]; exact move_any (files_drewN h q) hn hs ht2 ho : Calls Tryz.prog 125 #[.map (some b), .string s, .string t] (w.drewN q) (DeedPost (w.drewN q) S b (put (del F s.data.toList) t.data.toList ((get F s.data.toList).getD []))))
  have hop2 : ∀ V, (∃ q, V = w.drewN q) → Calls Tryz.prog 125 #[.map (some b), .string s, .string t] V fun e w' => DeedPost w S b (put (del F s.data.toList) t.data.toList ((get F s.data.toList).getD [])) e w' ∧ w'.cell? ⟨i, 0, none⟩ = some (.string s) ∧ w'.cell? ⟨j, 0, none⟩ = some (.string t) := by
   rintro V ⟨q, rfl⟩
   refine (hop q).mono fun e w' hp => ⟨deedPost_drewN hp, ?_⟩
   obtain ⟨_, _, _, _, hc⟩ := hp
   exact ⟨hc.cell (w := w.drewN q) h1 (hCS _ c1), hc.cell (w := w.drewN q) h2 (hCS _ c2)⟩
  have HOP := hide hop2
  clear hop hop2 h hf ht hCS
  show Calls Tryz.prog 124 #[.map (some b), .int .i64 tear, .pointer (some ⟨i, 0, none⟩), .pointer (some ⟨j, 0, none⟩)] w (DeedPost w S b (put (del F s.data.toList) t.data.toList ((get F s.data.toList).getD [])))
  go_enter Tryz.func124, Tryz.ntmps124
  go_wp2_with fail
  refine (HOP.out _ ⟨0, rfl⟩).mono ?_
  rintro e w1 ⟨⟨rfl, hpost⟩, hcc⟩
  go_wp2
  go_end0
  exact ⟨rfl, hpost⟩
 | @drop i s h1 hs c1 =>
  have hop := fun q => (drop_any (files_drewN h q) hs : Calls Tryz.prog 100 #[.map (some b), .string s] (w.drewN q) (DeedPost (w.drewN q) S b (del F s.data.toList)))
  have hop2 : ∀ V, (∃ q, V = w.drewN q) → Calls Tryz.prog 100 #[.map (some b), .string s] V fun e w' => DeedPost w S b (del F s.data.toList) e w' ∧ w'.cell? ⟨i, 0, none⟩ = some (.string s) := by
   rintro V ⟨q, rfl⟩
   refine (hop q).mono fun e w' hp => ⟨deedPost_drewN hp, ?_⟩
   obtain ⟨_, _, _, _, hc⟩ := hp
   exact hc.cell (w := w.drewN q) h1 (hCS _ c1)
  have HOP := hide hop2
  clear hop hop2 h hf ht hCS
  show Calls Tryz.prog 99 #[.map (some b), .int .i64 tear, .pointer (some ⟨i, 0, none⟩)] w (DeedPost w S b (del F s.data.toList))
  go_enter Tryz.func99, Tryz.ntmps99
  go_wp2_with fail
  refine (HOP.out _ ⟨0, rfl⟩).mono ?_
  rintro e w1 ⟨⟨rfl, hpost⟩, hcc⟩
  go_wp2
  go_end0
  exact ⟨rfl, hpost⟩
end Go.Proofs.YtgbdjcekpdfpjaaGreatDoor
namespace Go.Proofs.YtgbdjcekpdfpjaaGreatDoor
open Go.RowKit
structure ActsIs (w : World) (C : Nat → Prop) (a : Value) (ds : List Deed) (xs : List Value) : Prop where
 row : w.ownsRow 0 155 2 a ds.length xs
 none_ : ds = [] → a = .slice none 0 0
 each : ∀ (i : Nat) (d : Deed), ds[i]? = some d → ∃ f cs, xs[i * 2]? = some (.func (.func f) #[] cs) ∧ xs[i * 2 + 1]? = some (.int .i64 (d.size : Nat)) ∧ DeedAt w C f cs d
theorem ActsIs.nil (w : World) (C : Nat → Prop) : ActsIs w C (.slice none 0 0) [] [] := ⟨World.ownsRow_nil _ _ _ _, fun _ => rfl, fun i d h => by simp at h⟩
theorem ActsIs.chg {w w' : World} {C T : Nat → Prop} {a : Value} {ds : List Deed} {xs : List Value} (h : ActsIs w C a ds xs) (hc : Chg w w' T) (hd : ∀ i, C i → ¬ T i) (ha : ∀ i, a.ownBlock = some i → ¬ T i) : ActsIs w' C a ds xs :=
 ⟨row_chg h.row hc ha, h.none_, fun i d hi => by
  obtain ⟨f, cs, h1, h2, h3⟩ := h.each i d hi
  exact ⟨f, cs, h1, h2, h3.chg hc hd⟩⟩
theorem ActsIs.mono {w : World} {C C' : Nat → Prop} {a : Value} {ds : List Deed} {xs : List Value} (h : ActsIs w C a ds xs) (hd : ∀ i, C i → C' i) : ActsIs w C' a ds xs :=
 ⟨h.row, h.none_, fun i d hi => by
  obtain ⟨f, cs, h1, h2, h3⟩ := h.each i d hi
  exact ⟨f, cs, h1, h2, h3.mono hd⟩⟩
structure Dk where
 room : Nat
 down : Bool
 last : Fl
 acts : List Deed
 fn : Nat
 keep : Int
 tear : Int
def runs (F : Fl) (ds : List Deed) : Fl := ds.foldl (fun F d => d.run F 0) F
def Dk.seen (st : Dk) : Fl := runs st.last st.acts
def sizes (ds : List Deed) : Nat := (ds.map Deed.size).sum
def Dk.used (st : Dk) : Nat := total st.last + sizes st.acts
structure Dk.Ok (st : Dk) : Prop where
 rises : Rises st.last
 fits : ∀ (i : Nat) (d : Deed), st.acts[i]? = some d → d.fits (runs st.last (st.acts.take i))
 few : ∀ i, i ≤ st.acts.length → (runs st.last (st.acts.take i)).length ≤ 4096
 room : st.used ≤ st.room
 most : st.room ≤ 16777216
 idle : st.down = true → st.acts = []
 many : st.acts.length ≤ 1000000
 fuse : (st.fn : Int) ≤ 9223372036854775807
theorem runs_snoc (F : Fl) (ds : List Deed) (d : Deed) : runs F (ds ++ [d]) = d.run (runs F ds) 0 := by
 unfold runs
 rw [List.foldl_append]
 rfl
theorem sizes_snoc (ds : List Deed) (d : Deed) : sizes (ds ++ [d]) = sizes ds + d.size := by
 unfold sizes
 simp
theorem total_del (F : Fl) (k : List UInt8) : total (del F k) ≤ total F := by
 unfold total del
 induction F with
 | nil => exact Nat.le_refl _
 | cons p r ih =>
  by_cases h : p.1 = k
  ·rw [List.filter_cons_of_neg (by simp [h]), List.map_cons, List.sum_cons]
   omega
  ·rw [List.filter_cons_of_pos (by simp [h]), List.map_cons, List.sum_cons, List.map_cons, List.sum_cons]
   omega
theorem total_lay (F : Fl) (k b : List UInt8) : total (lay F k b) = total F + b.length := by
 unfold total
 induction F with
 | nil => simp [lay]
 | cons p r ih =>
  unfold lay
  split
  ·simp
   omega
  ·simp only [List.map_cons, List.sum_cons, ih]
   omega
theorem total_get {F : Fl} (hF : Rises F) (k : List UInt8) : total (del F k) + ((get F k).getD []).length = total F := by
 unfold total del
 induction F with
 | nil => rfl
 | cons p r ih =>
  obtain ⟨h1, h2⟩ := List.pairwise_cons.1 hF
  have ih := ih h2
  unfold get
  by_cases h : p.1 = k
  ·rw [List.filter_cons_of_neg (by simp [h]), if_pos h, List.map_cons, List.sum_cons]
   have hn : get r k = none := get_none_iff.2 fun y hy e => nm_irrefl k (by have := h1 y hy; rw [e, h] at this; exact this)
   rw [hn] at ih
   simp at ih ⊢
   omega
  ·rw [List.filter_cons_of_pos (by simp [h]), if_neg h, List.map_cons, List.sum_cons, List.map_cons, List.sum_cons]
   omega
theorem total_put {F : Fl} (hF : Rises F) (k b : List UInt8) : total (put F k b) + ((get F k).getD []).length = total F + b.length := by
 unfold put
 rw [total_lay]
 have := total_get hF k
 omega
theorem Deed.rises {F : Fl} (hF : Rises F) (d : Deed) (t : Nat) : Rises (d.run F t) := by
 cases d with
 | put k a b => exact hF.put _ _
 | trim k n => exact hF.put _ _
 | move k s => exact (hF.del _).put _ _
 | drop k => exact hF.del _
theorem over_length (o m : List UInt8) (a : Nat) (ha : a ≤ o.length) : (over o a m).length ≤ o.length + m.length := by
 unfold over
 simp only [List.length_append, List.length_take, List.length_drop]
 omega
theorem Deed.total_le {F : Fl} (hF : Rises F) (d : Deed) (hf : d.fits F) (t : Nat) : total (d.run F t) ≤ total F + d.size := by
 cases d with
 | put k a b =>
  show total (Go.Proofs.YtgbdjcekpdfpjaaGreatDoor.put F k (over ((get F k).getD []) a (b.take (b.length - t)))) ≤ total F + b.length
  have h1 := total_put hF k (over ((get F k).getD []) a (b.take (b.length - t)))
  have h2 := over_length ((get F k).getD []) (b.take (b.length - t)) a hf.1
  rw [List.length_take] at h2
  omega
 | trim k n =>
  show total (Go.Proofs.YtgbdjcekpdfpjaaGreatDoor.put F k (((get F k).getD []).take n)) ≤ total F + 0
  have h1 := total_put hF k (((get F k).getD []).take n)
  rw [List.length_take] at h1
  omega
 | move k s =>
  show total (Go.Proofs.YtgbdjcekpdfpjaaGreatDoor.put (del F k) s ((get F k).getD [])) ≤ total F + 0
  have h1 := total_put (hF.del k) s ((get F k).getD [])
  have h2 := total_get hF k
  omega
 | drop k => exact total_del F k
theorem Deed.few {F : Fl} (hF : Rises F) (d : Deed) (t : Nat) : (d.run F t).length = (d.run F 0).length := by
 cases d with
 | put k a b =>
  show (Go.Proofs.YtgbdjcekpdfpjaaGreatDoor.put F k _).length = (Go.Proofs.YtgbdjcekpdfpjaaGreatDoor.put F k _).length
  rw [length_put hF, length_put hF]
 | trim k n => rfl
 | move k s => rfl
 | drop k => rfl
structure DiskIs (w : World) (S C : Nat → Prop) (g : Nat) (st : Dk) : Prop where
 ok : st.Ok
 cap : ∀ i, C i → i < w.heap.size
 sap : ∀ i, S i → i < w.heap.size
 sep : ∀ i, S i → ¬ C i
 in_ : S g
 parts : ∃ (A L : Nat → Prop) (bs bl : Nat) (a : Value) (xs : List Value) (Vs Vl : List UInt8 → Value) (Ds Dl : DataW Value),
  Hd w g st.room st.used st.down (.map (some bl)) (.map (some bs)) a st.fn st.keep st.tear ∧ FilesIs w A bs st.seen Vs Ds ∧ FilesIs w L bl st.last Vl Dl ∧ ActsIs w C a st.acts xs ∧
  (∀ i, A i → S i ∧ ¬ L i ∧ i ≠ g ∧ a.ownBlock ≠ some i) ∧ (∀ i, L i → S i ∧ i ≠ g ∧ a.ownBlock ≠ some i) ∧ (∀ i, a.ownBlock = some i → S i ∧ i ≠ g)
theorem DiskIs.chg {w w' : World} {S C T : Nat → Prop} {g : Nat} {st : Dk} (h : DiskIs w S C g st) (hc : Chg w w' T) (hS : ∀ i, S i → ¬ T i) (hC : ∀ i, C i → ¬ T i) : DiskIs w' S C g st := by
 obtain ⟨A, L, bs, bl, a, xs, Vs, Vl, Ds, Dl, h1, h2, h3, h4, h5, h6, h7⟩ := h.parts
 exact ⟨h.ok, fun i hi => Nat.lt_of_lt_of_le (h.cap i hi) hc.size, fun i hi => Nat.lt_of_lt_of_le (h.sap i hi) hc.size, h.sep, h.in_, A, L, bs, bl, a, xs, Vs, Vl, Ds, Dl, h1.chg hc (hS _ h.in_), h2.chg hc fun i hi => hS i (h5 i hi).1, h3.chg hc fun i hi => hS i (h6 i hi).1, h4.chg hc hC fun i hi => hS i (h7 i hi).1, h5, h6, h7⟩
end Go.Proofs.YtgbdjcekpdfpjaaGreatDoor
