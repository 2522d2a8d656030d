import Derived.Sort.Statements
import Derived.Maps.OwnSet
import Derived.Test.YtionbmlicmibgaaGreatDoorS1
import Derived.Test.YtionbmlicmibgaaGreatDoorS2
namespace Go.Proofs.YtionbmlicmibgaaGreatDoor
set_option linter.unusedVariables false
set_option linter.unusedSimpArgs false
open Go.Sort
structure Cmp {α : Type} (c : α → α → Int) : Prop where
 anti : ∀ x y, c y x = -c x y
 like : ∀ x y, c x y = 0 → ∀ z, c x z = c y z
 on : ∀ x y z, c x y < 0 → c y z < 0 → c x z < 0
def lexC {α : Type} (c d : α → α → Int) (x y : α) : Int := if c x y ≠ 0 then c x y else d x y
theorem Cmp.like' {α : Type} {c : α → α → Int} (h : Cmp c) {y z : α} (e : c y z = 0) (x : α) : c x y = c x z := by
 have h1 := h.like y z e x
 have h2 := h.anti x y
 have h3 := h.anti x z
 omega
theorem Cmp.lex {α : Type} {c d : α → α → Int} (hc : Cmp c) (hd : Cmp d) : Cmp (lexC c d) where
 anti x y := by
  have h1 := hc.anti x y
  have h2 := hd.anti x y
  unfold lexC
  by_cases h : c x y = 0
  ·rw [if_neg (by omega), if_neg (by omega)]
   exact h2
  ·rw [if_pos (by omega), if_pos (by omega)]
   exact h1
 like x y h z := by
  unfold lexC at *
  by_cases h0 : c x y = 0
  ·rw [if_neg (by omega)] at h
   rw [hc.like x y h0 z, hd.like x y h z]
  ·rw [if_pos h0] at h
   exact absurd h h0
 on x y z h1 h2 := by
  unfold lexC at *
  by_cases ha : c x y = 0
  ·rw [if_neg (by omega)] at h1
   have e1 := hc.like x y ha z
   by_cases hb : c y z = 0
   ·rw [if_neg (by omega)] at h2
    rw [if_neg (by omega)]
    exact hd.on x y z h1 h2
   ·rw [if_pos hb] at h2
    rw [if_pos (by omega)]
    omega
  ·rw [if_pos ha] at h1
   by_cases hb : c y z = 0
   ·have e1 := hc.like' hb x
    rw [if_pos (by omega)]
    omega
   ·rw [if_pos hb] at h2
    have := hc.on x y z h1 h2
    rw [if_pos (by omega)]
    exact this
theorem cmpInt (f : Sp → Int) : Cmp fun x y => Lib.compareInt (f x) (f y) where
 anti x y := by unfold Lib.compareInt; (repeat' split) <;> omega
 like x y h z := by
  have : f x = f y := by
   unfold Lib.compareInt at h
   revert h
   (repeat' split) <;> intro h <;> omega
  rw [this]
 on x y z h1 h2 := by
  unfold Lib.compareInt at *
  revert h1 h2
  (repeat' split) <;> intro h1 h2 <;> omega
theorem compareBytes_anti : ∀ a b : List UInt8, Lib.compareBytes b a = -Lib.compareBytes a b
 | [], [] => rfl
 | [], _ :: _ => rfl
 | _ :: _, [] => rfl
 | x :: a, y :: b => by
  have ih := compareBytes_anti a b
  simp only [Lib.compareBytes]
  by_cases h1 : x < y
  ·have h2 : ¬ y < x := fun h => UInt8.lt_irrefl _ (UInt8.lt_trans h h1)
   simp [h1, h2]
  ·by_cases h2 : y < x
   ·simp [h1, h2]
   ·simp [h1, h2, ih]
theorem compareBytes_eq : ∀ {a b : List UInt8}, Lib.compareBytes a b = 0 → a = b
 | [], [], _ => rfl
 | [], _ :: _, h => by simp [Lib.compareBytes] at h
 | _ :: _, [], h => by simp [Lib.compareBytes] at h
 | x :: a, y :: b, h => by
  simp only [Lib.compareBytes] at h
  by_cases h1 : x < y
  ·simp [h1] at h
  ·by_cases h2 : y < x
   ·simp [h1, h2] at h
   ·simp only [h1, h2, if_false] at h
    have hxy : x = y := UInt8.le_antisymm (UInt8.not_lt.1 h2) (UInt8.not_lt.1 h1)
    rw [hxy, compareBytes_eq h]
theorem compareBytes_on : ∀ {a b c : List UInt8}, Lib.compareBytes a b < 0 → Lib.compareBytes b c < 0 → Lib.compareBytes a c < 0
 | [], [], _, h, _ => by simp [Lib.compareBytes] at h
 | [], _ :: _, [], _, h => by simp [Lib.compareBytes] at h
 | [], _ :: _, _ :: _, _, _ => by simp [Lib.compareBytes]
 | _ :: _, [], _, h, _ => by simp [Lib.compareBytes] at h
 | _ :: _, _ :: _, [], _, h => by simp [Lib.compareBytes] at h
 | x :: a, y :: b, z :: c, h1, h2 => by
  simp only [Lib.compareBytes] at h1 h2 ⊢
  by_cases hxy : x < y
  ·by_cases hyz : y < z
   ·simp [UInt8.lt_trans hxy hyz]
   ·by_cases hzy : z < y
    ·simp [hyz, hzy] at h2
    ·have e : y = z := UInt8.le_antisymm (UInt8.not_lt.1 hzy) (UInt8.not_lt.1 hyz)
     subst e
     simp [hxy]
  ·by_cases hyx : y < x
   ·simp [hxy, hyx] at h1
   ·have e : x = y := UInt8.le_antisymm (UInt8.not_lt.1 hyx) (UInt8.not_lt.1 hxy)
    subst e
    simp only [hxy, if_false] at h1
    by_cases hyz : x < z
    ·simp [hyz]
    ·by_cases hzy : z < x
     ·simp [hyz, hzy] at h2
     ·simp only [hyz, hzy, if_false] at h2 ⊢
      exact compareBytes_on h1 h2
theorem cmpName : Cmp fun x y : Sp => Lib.compareBytes x.nl y.nl where
 anti x y := compareBytes_anti _ _
 like x y h z := by rw [compareBytes_eq h]
 on x y z h1 h2 := compareBytes_on h1 h2
def cmpS : Sp → Sp → Int :=
 lexC (fun x y => Lib.compareInt x.t y.t) (lexC (fun x y => Lib.compareInt x.s y.s) (lexC (fun x y => Lib.compareInt x.i y.i) (lexC (fun x y => Lib.compareInt x.p y.p) (lexC (fun x y => Lib.compareInt x.e y.e) fun x y => Lib.compareBytes x.nl y.nl))))
theorem cmpS_cmp : Cmp cmpS := (cmpInt _).lex ((cmpInt _).lex ((cmpInt _).lex ((cmpInt _).lex ((cmpInt _).lex cmpName))))
theorem compareInt_eq {a b : Int} (h : Lib.compareInt a b = 0) : a = b := by
 unfold Lib.compareInt at h
 revert h
 (repeat' split) <;> intro h <;> omega
theorem lexC_eq {α : Type} {c d : α → α → Int} {x y : α} (h : lexC c d x y = 0) : c x y = 0 ∧ d x y = 0 := by
 unfold lexC at h
 split at h
 ·rename_i h0
  exact absurd h h0
 ·rename_i h0
  exact ⟨by omega, h⟩
theorem cmpS_eq {x y : Sp} (h : cmpS x y = 0) : x = y := by
 obtain ⟨a, h⟩ := lexC_eq h
 obtain ⟨b, h⟩ := lexC_eq h
 obtain ⟨c, h⟩ := lexC_eq h
 obtain ⟨d, h⟩ := lexC_eq h
 obtain ⟨e, h⟩ := lexC_eq h
 replace a := compareInt_eq a
 replace b := compareInt_eq b
 replace c := compareInt_eq c
 replace d := compareInt_eq d
 replace e := compareInt_eq e
 replace h := compareBytes_eq h
 obtain ⟨t, i, p, s, en, n⟩ := x
 obtain ⟨t', i', p', s', en', n'⟩ := y
 simp only [Sp.nl] at a b c d e h
 have hn : n = n' := by
  obtain ⟨⟨u⟩⟩ := n
  obtain ⟨⟨v⟩⟩ := n'
  simp only at h
  rw [h]
 subst a b c d e hn
 rfl
theorem cmpS_self (x : Sp) : cmpS x x = 0 := by
 have := cmpS_cmp.anti x x
 omega
def ltS (x y : Sp) : Bool := decide (cmpS x y < 0)
theorem ltS_swo : SWO ltS where
 irrefl x := by unfold ltS; rw [cmpS_self]; rfl
 trans x y z h1 h2 := by
  unfold ltS at *
  rw [decide_eq_true_eq] at *
  exact cmpS_cmp.on x y z h1 h2
 ntrans x y z h1 h2 := by
  unfold ltS at *
  rw [decide_eq_false_iff_not] at *
  intro h3
  have a1 := cmpS_cmp.anti x y
  by_cases h0 : cmpS x y = 0
  ·have := cmpS_cmp.like x y h0 z
   omega
  ·have := cmpS_cmp.on y x z (by omega) h3
   omega
theorem ltS_tot (x y : Sp) (h1 : ltS x y = false) (h2 : ltS y x = false) : x = y := by
 unfold ltS at *
 rw [decide_eq_false_iff_not] at *
 have := cmpS_cmp.anti x y
 exact cmpS_eq (by omega)
theorem ltS_asymm {x y : Sp} (h : ltS x y = true) : ltS y x = false := by
 unfold ltS at *
 rw [decide_eq_true_eq] at h
 rw [decide_eq_false_iff_not]
 have := cmpS_cmp.anti x y
 omega
def sortS (l : List Sp) : List Sp := l.mergeSort fun x y => !ltS y x
theorem leS_trans (a b c : Sp) (h1 : (!ltS b a) = true) (h2 : (!ltS c b) = true) : (!ltS c a) = true := by
 rw [Bool.not_eq_true'] at *
 exact ltS_swo.ntrans c b a h2 h1
theorem leS_total (a b : Sp) : ((!ltS b a) || !ltS a b) = true := by
 cases h : ltS b a
 ·rfl
 ·rw [ltS_asymm h]
  rfl
theorem sortS_pair (l : List Sp) : (sortS l).Pairwise fun x y => (!ltS y x) = true := List.pairwise_mergeSort leS_trans leS_total l
theorem sortS_perm (l : List Sp) : (sortS l).Perm l := List.mergeSort_perm l _
theorem sorted_one {l m : List Sp} (hl : l.Pairwise fun x y => (!ltS y x) = true) (hm : m.Pairwise fun x y => (!ltS y x) = true) (hp : l.Perm m) : l = m := by
 refine List.Perm.eq_of_pairwise (le := fun x y => (!ltS y x) = true) (fun a b _ _ h1 h2 => ?_) hl hm hp
 rw [Bool.not_eq_true'] at h1 h2
 exact ltS_tot a b h2 h1
theorem sortS_of_perm {l m : List Sp} (h : l.Perm m) : sortS l = sortS m :=
 sorted_one (sortS_pair l) (sortS_pair m) (((sortS_perm l).trans h).trans (sortS_perm m).symm)
theorem sortS_sortS (l : List Sp) : sortS (sortS l) = sortS l := sortS_of_perm (sortS_perm l)
theorem sortS_length (l : List Sp) : (sortS l).length = l.length := (sortS_perm l).length_eq
end Go.Proofs.YtionbmlicmibgaaGreatDoor
namespace Go.Proofs.YtionbmlicmibgaaGreatDoor
set_option linter.unusedVariables false
set_option linter.unusedSimpArgs false
open Go.RowKit
end Go.Proofs.YtionbmlicmibgaaGreatDoor
namespace Go.Proofs.YtionbmlicmibgaaGreatDoor
set_option linter.unusedVariables false
set_option linter.unusedSimpArgs false
open Go.RowKit
structure Br where
 d : Int
 o : Bool
 s : Sp
deriving DecidableEq
instance : Inhabited Br := ⟨⟨0, false, default⟩⟩
end Go.Proofs.YtionbmlicmibgaaGreatDoor
namespace Go.Proofs.YtionbmlicmibgaaGreatDoor
set_option linter.unusedVariables false
set_option linter.unusedSimpArgs false
open Go.RowKit
theorem Tryz.infoSp : (Tryz.prog.info? 30).map (fun i => (i.zero, i.size, i.bytes)) = some (some (.agg #[.int .i64 0, .int .i64 0, .int .i64 0, .int .i64 0, .int .i64 0, .string ⟨#[]⟩]), 6, 56) := by kernel_rfl
theorem run_push {B : Nat} {w : World} {v : Value} {l : List Sp} (h : OwnS B w v l) (x : Sp) (hB : B ≤ w.heap.size) (hs : l.length ≤ 1100000) :
  ∃ v' w', (Builtin.append_ #[22, 22] 22 #[v, .slice (some ⟨w.heap.size, 0, none⟩) 1 1]).run Tryz.prog (w.alloc (.cells #[.int .i64 x.t, .int .i64 x.i, .int .i64 x.p, .int .i64 x.s, .int .i64 x.e, .string x.n] 30)) = .ok v' w' ∧ OwnS B w' v' (l ++ [x]) ∧ Below B w w' ∧ w.grownBy w' v.ownBlock := by
 obtain ⟨i0, hi0, hz0, hz1, hz2⟩ := info_parts Tryz.infoSp
 have ho' := World.ownsRow.alloc h (.cells #[.int .i64 x.t, .int .i64 x.i, .int .i64 x.p, .int .i64 x.s, .int .i64 x.e, .string x.n] 30)
 obtain ⟨v', w', hr, h1, h2, _, h4⟩ := run_append_own_at (P := Tryz.prog) (w.alloc (.cells #[.int .i64 x.t, .int .i64 x.i, .int .i64 x.p, .int .i64 x.s, .int .i64 x.e, .string x.n] 30)) B 22 22 30 i0 _ 6 56 Tryz.underlying22 hi0 hz0 hz1 hz2 rfl (by decide) v l.length (l.flatMap spC) ho' ⟨w.heap.size, 0, none⟩ 1 1 (spC x) rfl
  (fun j u hj => by
   rw [add_lit0, Nat.zero_add, cell_of_row _ w.heap.size j _ 30 (0, 0) (heap_alloc_new w _)]
   simpa [spC] using hj)
  (spC_one x) (by simp only [maxLen]; omega) (by omega) (by simp; omega)
 have hb0 : Below B w (w.alloc (.cells #[.int .i64 x.t, .int .i64 x.i, .int .i64 x.p, .int .i64 x.s, .int .i64 x.e, .string x.n] 30)) := (Below.refl _ _).alloc hB _
 refine ⟨v', w', hr, ?_, hb0.grown h2 (by simp; omega) fun k hk => (World.ownsRow.lt h k hk).1, ?_⟩
 ·have : (l ++ [x]).flatMap spC = l.flatMap spC ++ spC x := by simp
  unfold OwnS
  rw [this, List.length_append]
  exact h1
 ·refine ⟨h2.os, h2.tape, h2.output, ?_, fun k hk hne => ?_⟩
  ·have := h2.size
   simp at this
   omega
  ·rw [h2.block k (by simp; omega) hne]
   exact heap_alloc_old _ _ hk
theorem wpList_push {w : World} {ops : Array Oper} {rest : List Oper} {o : Oper} {a : Act} {Q : Exit → Act → World → Prop} (hgd : o.guard = none) (s t : Operand)
  (ho : o.op = .call { callee := .builtin .append, args := #[s, t], argTypes := #[22, 22] }) (hty : o.type = 22) {B : Nat} {v : Value} {l : List Sp} (x : Sp)
  (hs : a.eval s = v) (ht : a.eval t = .slice (some ⟨w.heap.size, 0, none⟩) 1 1) (h : OwnS B w v l) (hB : B ≤ w.heap.size) (hn : l.length ≤ 1100000)
  (hK : ∀ v' w', OwnS B w' v' (l ++ [x]) → Below B w w' → w.grownBy w' v.ownBlock → wpList Tryz.prog ops Q rest (a.put o.dst v') w') : wpList Tryz.prog ops Q (o :: rest) a (w.alloc (.cells #[.int .i64 x.t, .int .i64 x.i, .int .i64 x.p, .int .i64 x.s, .int .i64 x.e, .string x.n] 30)) := by
 obtain ⟨v', w', hr, h1, h2, h3⟩ := run_push h x hB hn
 exact Lib.wpList_append_run_sl _ hgd s t 22 ho v _ hs ht (by rw [hty]; exact hr) (hK v' w' h1 h2 h3)
end Go.Proofs.YtionbmlicmibgaaGreatDoor
namespace Go.Proofs.YtionbmlicmibgaaGreatDoor
set_option linter.unusedVariables false
set_option linter.unusedSimpArgs false
open Go.RowKit
end Go.Proofs.YtionbmlicmibgaaGreatDoor
namespace Go.Proofs.YtionbmlicmibgaaGreatDoor
set_option linter.unusedVariables false
set_option linter.unusedSimpArgs false
open Go.RowKit
end Go.Proofs.YtionbmlicmibgaaGreatDoor
namespace Go.Proofs.YtionbmlicmibgaaGreatDoor
set_option linter.unusedVariables false
set_option linter.unusedSimpArgs false
open Go.RowKit
end Go.Proofs.YtionbmlicmibgaaGreatDoor
namespace Go.Proofs.YtionbmlicmibgaaGreatDoor
set_option linter.unusedVariables false
set_option linter.unusedSimpArgs false
open Go.RowKit
end Go.Proofs.YtionbmlicmibgaaGreatDoor
namespace Go.Proofs.YtionbmlicmibgaaGreatDoor
set_option linter.unusedVariables false
set_option linter.unusedSimpArgs false
open Go.RowKit
def cn0 : Cn := ⟨0, 0, 0, 0, 0⟩
def Cn.plus (a b : Cn) : Cn := ⟨a.add + b.add, a.same + b.same, a.other + b.other, a.cyc + b.cyc, a.full + b.full⟩
theorem Cn.plus0 (a : Cn) : a.plus cn0 = a := rfl
theorem Cn.plus_assoc (a b c : Cn) : (a.plus b).plus c = a.plus (b.plus c) := by
 unfold Cn.plus
 simp only [Nat.add_assoc]
theorem Cn.zero_plus (a : Cn) : cn0.plus a = a := by
 unfold Cn.plus cn0
 simp only [Nat.zero_add]
noncomputable def addP (tr : Int) (L l : List Sp) : List Sp := if l.all (fun x => x.ok && decide (x.t = tr)) = true then (putsP L cn0 l).1 else L
theorem ok_ne {x : Sp} (h : x.ok = true) : x.p ≠ x.i := ((Sp.ok_iff x).1 h).ne
theorem foOk_nil (tr : Int) : FoOk tr [] := ⟨List.Pairwise.nil, noRing_nil, fun x hx => by simp at hx, by simp⟩
theorem FoOk.perm {tr : Int} {L M : List Sp} (h : FoOk tr L) (hp : M.Perm L) : FoOk tr M := by
 have hids : M.Pairwise fun x y => x.i ≠ y.i := hp.symm.pairwise h.ids (fun {x y} hxy e => hxy e.symm)
 have hfnd : ∀ k u, fnd M k = some u → fnd L k = some u := fun k u hu => by
  obtain ⟨h1, h2⟩ := fnd_mem hu
  rw [← h2]
  exact fnd_of h.ids (hp.mem_iff.1 h1)
 obtain ⟨r, hr⟩ := h.rises
 exact ⟨hids, ⟨r, fun x hx u hu => hr x (hp.mem_iff.1 hx) u (hfnd _ _ hu)⟩, fun x hx => h.ok x (hp.mem_iff.1 hx), by rw [hp.length_eq]; exact h.len⟩
theorem FoOk.sort {tr : Int} {L : List Sp} (h : FoOk tr L) : FoOk tr (sortS L) := h.perm (sortS_perm L)
theorem fnd_perm {L M : List Sp} (h : L.Pairwise fun x y => x.i ≠ y.i) (hp : M.Perm L) (k : Int) : fnd M k = fnd L k := by
 have hids : M.Pairwise fun x y => x.i ≠ y.i := hp.symm.pairwise h (fun {x y} hxy e => hxy e.symm)
 cases hf : fnd L k with
 | none =>
  rw [fnd_none] at hf ⊢
  exact fun x hx => hf x (hp.mem_iff.1 hx)
 | some u =>
  obtain ⟨h1, h2⟩ := fnd_mem hf
  rw [← h2]
  exact fnd_of hids (hp.mem_iff.2 h1)
theorem upw_rank {P M : List Sp} {r : Int → Nat} (hr : Ranks M r) (hid : M.Pairwise fun x y => x.i ≠ y.i) (hs : ∀ y ∈ P, y ∈ M) {x : Sp} (hx : x ∈ M) : ∀ (n : Nat) (a : Int), upw P x.i n a = true → ∃ u, fnd P a = some u ∧ r x.i < r u.i
 | 0, a, h => by cases h
 | n + 1, a, h => by
  unfold upw at h
  cases hf : fnd P a with
  | none => rw [hf] at h; cases h
  | some u =>
   rw [hf] at h
   have huM := hs u (fnd_mem hf).1
   refine ⟨u, rfl, ?_⟩
   by_cases hp : u.p = x.i
   ·exact hr u huM x (by rw [hp]; exact fnd_of hid hx)
   ·simp only [if_neg hp] at h
    obtain ⟨v, hv, hlt⟩ := upw_rank hr hid hs hx n u.p h
    obtain ⟨hvP, hvi⟩ := fnd_mem hv
    have := hr u huM v (by rw [← hvi]; exact fnd_of hid (hs v hvP))
    omega
theorem adds_all {tr : Int} : ∀ (rest pre : List Sp) (c : Cn), FoOk tr (pre ++ rest) → putsP pre c rest = (pre ++ rest, { c with add := c.add + rest.length })
 | [], pre, c, h => by unfold putsP; rw [List.append_nil]; rfl
 | x :: rest, pre, c, h => by
  have hx : x ∈ pre ++ x :: rest := List.mem_append_right _ (List.mem_cons_self ..)
  have hn : fnd pre x.i = none := by
   rw [fnd_none]
   intro y hy
   have := (List.pairwise_append.1 h.ids).2.2 y hy x (List.mem_cons_self ..)
   exact this
  have hl : ¬ 64 ≤ pre.length := by
   have := h.len
   rw [List.length_append, List.length_cons] at this
   omega
  have hr : ring pre x.i x.p = false := by
   rw [Bool.eq_false_iff, ne_eq, ring_iff]
   rintro ⟨n, hn⟩
   obtain ⟨r, hR⟩ := h.rises
   have hs : ∀ y ∈ pre, y ∈ pre ++ x :: rest := fun y hy => List.mem_append_left _ hy
   obtain ⟨u, hu, hlt⟩ := upw_rank hR h.ids hs hx n x.p hn
   obtain ⟨huP, hui⟩ := fnd_mem hu
   have := hR x hx u (by rw [← hui]; exact fnd_of h.ids (hs u huP))
   omega
  have hput : putP pre c x = (pre ++ [x], { c with add := c.add + 1 }) := by
   unfold putP
   rw [hn]
   simp only
   rw [if_neg hl, hr]
   simp
  unfold putsP
  rw [hput]
  have h' : FoOk tr ((pre ++ [x]) ++ rest) := by rw [List.append_assoc]; exact h
  rw [adds_all rest (pre ++ [x]) _ h', List.append_assoc]
  simp only [List.length_cons, List.cons_append, List.nil_append, Prod.mk.injEq, Cn.mk.injEq, true_and, and_true]
  omega
end Go.Proofs.YtionbmlicmibgaaGreatDoor
