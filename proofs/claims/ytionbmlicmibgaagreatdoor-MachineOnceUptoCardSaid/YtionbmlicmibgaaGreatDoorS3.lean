import Derived.Sort.Statements
import Derived.Maps.OwnSet
import Derived.Test.YtionbmlicmibgaaGreatDoorS1
import Derived.Test.YtionbmlicmibgaaGreatDoorS2
namespace Go.Proofs.YtionbmlicmibgaaGreatDoor
set_option linter.unusedVariables false
set_option linter.unusedSimpArgs false
open Go.Sort
structure Cmp {α : Type} (c : α → α → Int) : Prop where
 anti : ∀ x y, c y x = -c x y
 like : ∀ x y, c x y = 0 → ∀ z, c x z = c y z
 on : ∀ x y z, c x y < 0 → c y z < 0 → c x z < 0
def lexC {α : Type} (c d : α → α → Int) (x y : α) : Int := if c x y ≠ 0 then c x y else d x y
theorem Cmp.like' {α : Type} {c : α → α → Int} (h : Cmp c) {y z : α} (e : c y z = 0) (x : α) : c x y = c x z := by
 have h1 := h.like y z e x
 have h2 := h.anti x y
 have h3 := h.anti x z
 omega
theorem Cmp.lex {α : Type} {c d : α → α → Int} (hc : Cmp c) (hd : Cmp d) : Cmp (lexC c d) where
 anti x y := by
  have h1 := hc.anti x y
  have h2 := hd.anti x y
  unfold lexC
  by_cases h : c x y = 0
  ·rw [if_neg (by omega), if_neg (by omega)]
   exact h2
  ·rw [if_pos (by omega), if_pos (by omega)]
   exact h1
 like x y h z := by
  unfold lexC at *
  by_cases h0 : c x y = 0
  ·rw [if_neg (by omega)] at h
   rw [hc.like x y h0 z, hd.like x y h z]
  ·rw [if_pos h0] at h
   exact absurd h h0
 on x y z h1 h2 := by
  unfold lexC at *
  by_cases ha : c x y = 0
  ·rw [if_neg (by omega)] at h1
   have e1 := hc.like x y ha z
   by_cases hb : c y z = 0
   ·rw [if_neg (by omega)] at h2
    rw [if_neg (by omega)]
    exact hd.on x y z h1 h2
   ·rw [if_pos hb] at h2
    rw [if_pos (by omega)]
    omega
  ·rw [if_pos ha] at h1
   by_cases hb : c y z = 0
   ·have e1 := hc.like' hb x
    rw [if_pos (by omega)]
    omega
   ·rw [if_pos hb] at h2
    have := hc.on x y z h1 h2
    rw [if_pos (by omega)]
    exact this
theorem cmpInt (f : Sp → Int) : Cmp fun x y => Lib.compareInt (f x) (f y) where
 anti x y := by unfold Lib.compareInt; (repeat' split) <;> omega
 like x y h z := by
  have : f x = f y := by
   unfold Lib.compareInt at h
   revert h
   (repeat' split) <;> intro h <;> omega
  rw [this]
 on x y z h1 h2 := by
  unfold Lib.compareInt at *
  revert h1 h2
  (repeat' split) <;> intro h1 h2 <;> omega
theorem compareBytes_anti : ∀ a b : List UInt8, Lib.compareBytes b a = -Lib.compareBytes a b
 | [], [] => rfl
 | [], _ :: _ => rfl
 | _ :: _, [] => rfl
 | x :: a, y :: b => by
  have ih := compareBytes_anti a b
  simp only [Lib.compareBytes]
  by_cases h1 : x < y
  ·have h2 : ¬ y < x := fun h => UInt8.lt_irrefl _ (UInt8.lt_trans h h1)
   simp [h1, h2]
  ·by_cases h2 : y < x
   ·simp [h1, h2]
   ·simp [h1, h2, ih]
theorem compareBytes_eq : ∀ {a b : List UInt8}, Lib.compareBytes a b = 0 → a = b
 | [], [], _ => rfl
 | [], _ :: _, h => by simp [Lib.compareBytes] at h
 | _ :: _, [], h => by simp [Lib.compareBytes] at h
 | x :: a, y :: b, h => by
  simp only [Lib.compareBytes] at h
  by_cases h1 : x < y
  ·simp [h1] at h
  ·by_cases h2 : y < x
   ·simp [h1, h2] at h
   ·simp only [h1, h2, if_false] at h
    have hxy : x = y := UInt8.le_antisymm (UInt8.not_lt.1 h2) (UInt8.not_lt.1 h1)
    rw [hxy, compareBytes_eq h]
theorem compareBytes_on : ∀ {a b c : List UInt8}, Lib.compareBytes a b < 0 → Lib.compareBytes b c < 0 → Lib.compareBytes a c < 0
 | [], [], _, h, _ => by simp [Lib.compareBytes] at h
 | [], _ :: _, [], _, h => by simp [Lib.compareBytes] at h
 | [], _ :: _, _ :: _, _, _ => by simp [Lib.compareBytes]
 | _ :: _, [], _, h, _ => by simp [Lib.compareBytes] at h
 | _ :: _, _ :: _, [], _, h => by simp [Lib.compareBytes] at h
 | x :: a, y :: b, z :: c, h1, h2 => by
  simp only [Lib.compareBytes] at h1 h2 ⊢
  by_cases hxy : x < y
  ·by_cases hyz : y < z
   ·simp [UInt8.lt_trans hxy hyz]
   ·by_cases hzy : z < y
    ·simp [hyz, hzy] at h2
    ·have e : y = z := UInt8.le_antisymm (UInt8.not_lt.1 hzy) (UInt8.not_lt.1 hyz)
     subst e
     simp [hxy]
  ·by_cases hyx : y < x
   ·simp [hxy, hyx] at h1
   ·have e : x = y := UInt8.le_antisymm (UInt8.not_lt.1 hyx) (UInt8.not_lt.1 hxy)
    subst e
    simp only [hxy, if_false] at h1
    by_cases hyz : x < z
    ·simp [hyz]
    ·by_cases hzy : z < x
     ·simp [hyz, hzy] at h2
     ·simp only [hyz, hzy, if_false] at h2 ⊢
      exact compareBytes_on h1 h2
theorem cmpName : Cmp fun x y : Sp => Lib.compareBytes x.nl y.nl where
 anti x y := compareBytes_anti _ _
 like x y h z := by rw [compareBytes_eq h]
 on x y z h1 h2 := compareBytes_on h1 h2
def cmpS : Sp → Sp → Int :=
 lexC (fun x y => Lib.compareInt x.t y.t) (lexC (fun x y => Lib.compareInt x.s y.s) (lexC (fun x y => Lib.compareInt x.i y.i) (lexC (fun x y => Lib.compareInt x.p y.p) (lexC (fun x y => Lib.compareInt x.e y.e) fun x y => Lib.compareBytes x.nl y.nl))))
theorem cmpS_cmp : Cmp cmpS := (cmpInt _).lex ((cmpInt _).lex ((cmpInt _).lex ((cmpInt _).lex ((cmpInt _).lex cmpName))))
theorem compareInt_eq {a b : Int} (h : Lib.compareInt a b = 0) : a = b := by
 unfold Lib.compareInt at h
 revert h
 (repeat' split) <;> intro h <;> omega
theorem lexC_eq {α : Type} {c d : α → α → Int} {x y : α} (h : lexC c d x y = 0) : c x y = 0 ∧ d x y = 0 := by
 unfold lexC at h
 split at h
 ·rename_i h0
  exact absurd h h0
 ·rename_i h0
  exact ⟨by omega, h⟩
theorem cmpS_eq {x y : Sp} (h : cmpS x y = 0) : x = y := by
 obtain ⟨a, h⟩ := lexC_eq h
 obtain ⟨b, h⟩ := lexC_eq h
 obtain ⟨c, h⟩ := lexC_eq h
 obtain ⟨d, h⟩ := lexC_eq h
 obtain ⟨e, h⟩ := lexC_eq h
 replace a := compareInt_eq a
 replace b := compareInt_eq b
 replace c := compareInt_eq c
 replace d := compareInt_eq d
 replace e := compareInt_eq e
 replace h := compareBytes_eq h
 obtain ⟨t, i, p, s, en, n⟩ := x
 obtain ⟨t', i', p', s', en', n'⟩ := y
 simp only [Sp.nl] at a b c d e h
 have hn : n = n' := by
  obtain ⟨⟨u⟩⟩ := n
  obtain ⟨⟨v⟩⟩ := n'
  simp only at h
  rw [h]
 subst a b c d e hn
 rfl
theorem cmpS_self (x : Sp) : cmpS x x = 0 := by
 have := cmpS_cmp.anti x x
 omega
def ltS (x y : Sp) : Bool := decide (cmpS x y < 0)
theorem ltS_swo : SWO ltS where
 irrefl x := by unfold ltS; rw [cmpS_self]; rfl
 trans x y z h1 h2 := by
  unfold ltS at *
  rw [decide_eq_true_eq] at *
  exact cmpS_cmp.on x y z h1 h2
 ntrans x y z h1 h2 := by
  unfold ltS at *
  rw [decide_eq_false_iff_not] at *
  intro h3
  have a1 := cmpS_cmp.anti x y
  by_cases h0 : cmpS x y = 0
  ·have := cmpS_cmp.like x y h0 z
   omega
  ·have := cmpS_cmp.on y x z (by omega) h3
   omega
theorem ltS_tot (x y : Sp) (h1 : ltS x y = false) (h2 : ltS y x = false) : x = y := by
 unfold ltS at *
 rw [decide_eq_false_iff_not] at *
 have := cmpS_cmp.anti x y
 exact cmpS_eq (by omega)
theorem ltS_asymm {x y : Sp} (h : ltS x y = true) : ltS y x = false := by
 unfold ltS at *
 rw [decide_eq_true_eq] at h
 rw [decide_eq_false_iff_not]
 have := cmpS_cmp.anti x y
 omega
def sortS (l : List Sp) : List Sp := l.mergeSort fun x y => !ltS y x
theorem leS_trans (a b c : Sp) (h1 : (!ltS b a) = true) (h2 : (!ltS c b) = true) : (!ltS c a) = true := by
 rw [Bool.not_eq_true'] at *
 exact ltS_swo.ntrans c b a h2 h1
theorem leS_total (a b : Sp) : ((!ltS b a) || !ltS a b) = true := by
 cases h : ltS b a
 ·rfl
 ·rw [ltS_asymm h]
  rfl
theorem sortS_pair (l : List Sp) : (sortS l).Pairwise fun x y => (!ltS y x) = true := List.pairwise_mergeSort leS_trans leS_total l
theorem sortS_perm (l : List Sp) : (sortS l).Perm l := List.mergeSort_perm l _
theorem sorted_one {l m : List Sp} (hl : l.Pairwise fun x y => (!ltS y x) = true) (hm : m.Pairwise fun x y => (!ltS y x) = true) (hp : l.Perm m) : l = m := by
 refine List.Perm.eq_of_pairwise (le := fun x y => (!ltS y x) = true) (fun a b _ _ h1 h2 => ?_) hl hm hp
 rw [Bool.not_eq_true'] at h1 h2
 exact ltS_tot a b h2 h1
theorem sortS_of_perm {l m : List Sp} (h : l.Perm m) : sortS l = sortS m :=
 sorted_one (sortS_pair l) (sortS_pair m) (((sortS_perm l).trans h).trans (sortS_perm m).symm)
theorem sortS_length (l : List Sp) : (sortS l).length = l.length := (sortS_perm l).length_eq
end Go.Proofs.YtionbmlicmibgaaGreatDoor
namespace Go.Proofs.YtionbmlicmibgaaGreatDoor
set_option linter.unusedVariables false
set_option linter.unusedSimpArgs false
open Go.RowKit
theorem filter_lt {α : Type} {p q : α → Bool} (h : ∀ x, p x = true → q x = true) : ∀ {l : List α} {u : α}, u ∈ l → q u = true → p u = false → (l.filter p).length < (l.filter q).length
 | x :: r, u, hu, hq, hp => by
  have hle : (r.filter p).length ≤ (r.filter q).length := by
   clear hu
   induction r with
   | nil => simp
   | cons y s ih =>
    rw [List.filter_cons, List.filter_cons]
    cases hpy : p y with
    | false => cases q y <;> simp <;> omega
    | true => rw [h y hpy]; simp; omega
  rw [List.filter_cons, List.filter_cons]
  rcases List.mem_cons.1 hu with rfl | hu
  ·rw [hp, hq]
   simp
   omega
  ·have ih := filter_lt h hu hq hp
   cases hpx : p x with
   | false => cases q x <;> simp <;> omega
   | true => rw [h x hpx]; simp; omega
end Go.Proofs.YtionbmlicmibgaaGreatDoor
namespace Go.Proofs.YtionbmlicmibgaaGreatDoor
set_option linter.unusedVariables false
set_option linter.unusedSimpArgs false
open Go.RowKit
structure Br where
 d : Int
 o : Bool
 s : Sp
deriving DecidableEq
instance : Inhabited Br := ⟨⟨0, false, default⟩⟩
def kids (S : List Sp) (k : Int) : List Sp := S.filter fun x => x.p == k
theorem mem_kids {S : List Sp} {k : Int} {x : Sp} : x ∈ kids S k ↔ x ∈ S ∧ x.p = k := by
 unfold kids
 rw [List.mem_filter, beq_iff_eq]
def unf (S : List Sp) : Nat → Int → Bool → Sp → List Br
 | 0, d, o, t => [⟨d, o, t⟩]
 | n + 1, d, o, t => ⟨d, o, t⟩ :: (kids S t.i).flatMap (unf S n (d + 1) false)
def Deep (S : List Sp) : Nat → Sp → Prop
 | 0, t => kids S t.i = []
 | n + 1, t => ∀ c ∈ kids S t.i, Deep S n c
theorem Deep.mono {S : List Sp} : ∀ {n m : Nat} {t : Sp}, n ≤ m → Deep S n t → Deep S m t
 | 0, 0, _, _, h => h
 | 0, m + 1, t, _, h => by
  intro c hc
  rw [show kids S t.i = [] from h] at hc
  simp at hc
 | n + 1, 0, _, hn, _ => by omega
 | n + 1, m + 1, t, hn, h => fun c hc => Deep.mono (by omega) (h c hc)
theorem unf_more {S : List Sp} : ∀ {n m : Nat} {d : Int} {o : Bool} {t : Sp}, Deep S n t → n ≤ m → unf S n d o t = unf S m d o t
 | 0, 0, _, _, _, _, _ => rfl
 | 0, m + 1, d, o, t, h, _ => by
  unfold unf
  rw [show kids S t.i = [] from h]
  rfl
 | n + 1, 0, _, _, _, _, hn => by omega
 | n + 1, m + 1, d, o, t, h, hn => by
  unfold unf
  rw [List.flatMap_def, List.flatMap_def]
  congr 2
  apply List.map_congr_left
  intro c hc
  exact unf_more (h c hc) (by omega)
theorem unf_head {S : List Sp} (n : Nat) (d : Int) (o : Bool) (t : Sp) : ∃ r, unf S n d o t = ⟨d, o, t⟩ :: r := by
 cases n with
 | zero => exact ⟨[], rfl⟩
 | succ n => exact ⟨_, rfl⟩
structure Tidy (S : List Sp) (r : Int → Nat) : Prop where
 ids : S.Pairwise fun x y => x.i ≠ y.i
 rises : Ranks S r
 pos : ∀ x ∈ S, 1 ≤ x.i
theorem Tidy.par {S : List Sp} {r : Int → Nat} (h : Tidy S r) {c t : Sp} (ht : t ∈ S) (hc : c.p = t.i) : fnd S c.p = some t := by
 rw [hc]
 exact fnd_of h.ids ht
theorem Tidy.up {S : List Sp} {r : Int → Nat} (h : Tidy S r) {c t : Sp} (ht : t ∈ S) (hcS : c ∈ S) (hc : c.p = t.i) : r t.i < r c.i := h.rises c hcS t (h.par ht hc)
theorem Tidy.nodup {S : List Sp} {r : Int → Nat} (h : Tidy S r) : S.Nodup := h.ids.imp fun hne e => hne (by rw [e])
theorem deep_of {S : List Sp} {r : Int → Nat} (h : Tidy S r) : ∀ (n : Nat) (t : Sp), (S.filter fun x => decide (r t.i < r x.i)).length ≤ n → t ∈ S → Deep S n t := by
 intro n
 induction n with
 | zero =>
  intro t hn ht
  show kids S t.i = []
  rw [List.eq_nil_iff_forall_not_mem]
  intro c hc
  obtain ⟨hcS, hcp⟩ := mem_kids.1 hc
  have hlt := h.up ht hcS hcp
  have : c ∈ S.filter fun x => decide (r t.i < r x.i) := List.mem_filter.2 ⟨hcS, decide_eq_true hlt⟩
  rw [List.eq_nil_of_length_eq_zero (Nat.le_zero.1 hn)] at this
  simp at this
 | succ n ih =>
  intro t hn ht c hc
  obtain ⟨hcS, hcp⟩ := mem_kids.1 hc
  have hlt := h.up ht hcS hcp
  refine ih c ?_ hcS
  have := filter_lt (p := fun x => decide (r c.i < r x.i)) (q := fun x => decide (r t.i < r x.i)) (fun x hx => by rw [decide_eq_true_eq] at *; omega) hcS (decide_eq_true hlt) (decide_eq_false (by omega))
  omega
theorem deep_all {S : List Sp} {r : Int → Nat} (h : Tidy S r) {t : Sp} (ht : t ∈ S) {n : Nat} (hn : S.length ≤ n) : Deep S n t :=
 deep_of h n t (Nat.le_trans (List.length_filter_le _ _) hn) ht
def anc (S : List Sp) : Nat → Sp → Option Sp
 | 0, x => some x
 | n + 1, x => (fnd S x.p).bind (anc S n)
theorem anc_add {S : List Sp} : ∀ {a b : Nat} {x c : Sp}, anc S a x = some c → anc S (a + b) x = anc S b c
 | 0, b, x, c, h => by
  injection h with h
  rw [h, Nat.zero_add]
 | a + 1, b, x, c, h => by
  rw [show a + 1 + b = (a + b) + 1 by omega]
  have h' : (fnd S x.p).bind (anc S a) = some c := h
  show (fnd S x.p).bind (anc S (a + b)) = _
  cases hf : fnd S x.p with
  | none => rw [hf] at h'; cases h'
  | some u =>
   rw [hf] at h'
   exact anc_add (a := a) h'
theorem anc_snoc {S : List Sp} {a : Nat} {x c t : Sp} (h : anc S a x = some c) (hc : fnd S c.p = some t) : anc S (a + 1) x = some t := by
 rw [anc_add h]
 show (fnd S c.p).bind (anc S 0) = some t
 rw [hc]
 rfl
theorem anc_mem {S : List Sp} : ∀ {n : Nat} {x c : Sp}, anc S n x = some c → x ∈ S → c ∈ S
 | 0, x, c, h, hx => by injection h with h; rw [← h]; exact hx
 | n + 1, x, c, h, hx => by
  unfold anc at h
  cases hf : fnd S x.p with
  | none => rw [hf] at h; cases h
  | some u => rw [hf] at h; exact anc_mem (n := n) h (fnd_mem hf).1
theorem anc_rank {S : List Sp} {r : Int → Nat} (hr : Tidy S r) : ∀ {n : Nat} {x c : Sp}, anc S n x = some c → x ∈ S → r c.i + n ≤ r x.i
 | 0, x, c, h, hx => by injection h with h; rw [h]; omega
 | n + 1, x, c, h, hx => by
  unfold anc at h
  cases hf : fnd S x.p with
  | none => rw [hf] at h; cases h
  | some u =>
   rw [hf] at h
   have h1 := anc_rank hr (n := n) h (fnd_mem hf).1
   have h2 := hr.rises x hx u hf
   omega
theorem mem_unf {S : List Sp} {r : Int → Nat} (hr : Tidy S r) : ∀ {n : Nat} {d : Int} {o : Bool} {t : Sp} {y : Br}, t ∈ S → y ∈ unf S n d o t → y.s ∈ S ∧ ∃ k : Nat, anc S k y.s = some t ∧ y.d = d + k ∧ y.o = (o && k == 0)
 | 0, d, o, t, y, ht, hy => by
  unfold unf at hy
  rw [List.mem_singleton] at hy
  subst hy
  exact ⟨ht, 0, rfl, by simp, by simp⟩
 | n + 1, d, o, t, y, ht, hy => by
  unfold unf at hy
  rcases List.mem_cons.1 hy with rfl | hy
  ·exact ⟨ht, 0, rfl, by simp, by simp⟩
  ·obtain ⟨c, hc, hy⟩ := List.mem_flatMap.1 hy
   obtain ⟨hcS, hcp⟩ := mem_kids.1 hc
   obtain ⟨h1, k, h2, h3, h4⟩ := mem_unf hr hcS hy
   exact ⟨h1, k + 1, anc_snoc h2 (hr.par ht hcp), by rw [h3]; omega, by rw [h4]; simp⟩
theorem anc_par {S : List Sp} {r : Int → Nat} (hr : Tidy S r) {y c c' t : Sp} (hy : y ∈ S) (ht : t ∈ S) (hcp : c.p = t.i) (hcp' : c'.p = t.i) {k k' : Nat} (h : anc S k y = some c) (h' : anc S k' y = some c') (hk : k ≤ k') : c = c' := by
 obtain ⟨j, rfl⟩ := Nat.exists_eq_add_of_le hk
 rw [anc_add h] at h'
 cases j with
 | zero => injection h'
 | succ j =>
  exfalso
  unfold anc at h'
  rw [hr.par ht hcp] at h'
  have h1 := anc_rank hr (show anc S j t = some c' from h') ht
  have hc'S := anc_mem (show anc S j t = some c' from h') ht
  have h2 := hr.up ht hc'S hcp'
  omega
theorem unf_nodup {S : List Sp} {r : Int → Nat} (hr : Tidy S r) : ∀ {n : Nat} {d : Int} {o : Bool} {t : Sp}, t ∈ S → ((unf S n d o t).map Br.s).Nodup
 | 0, d, o, t, ht => by simp [unf]
 | n + 1, d, o, t, ht => by
  unfold unf
  rw [List.map_cons, List.nodup_cons, List.map_flatMap]
  constructor
  ·intro hm
   obtain ⟨c, hc, hm⟩ := List.mem_flatMap.1 hm
   obtain ⟨y, hy, hys⟩ := List.mem_map.1 hm
   obtain ⟨hcS, hcp⟩ := mem_kids.1 hc
   obtain ⟨h1, k, h2, _⟩ := mem_unf hr hcS hy
   simp only at hys
   rw [hys] at h2
   have h3 := anc_rank hr h2 ht
   have h4 := hr.up ht hcS hcp
   omega
  ·unfold List.Nodup
   rw [List.pairwise_flatMap]
   refine ⟨fun c hc => unf_nodup hr (mem_kids.1 hc).1, ?_⟩
   have hk : (kids S t.i).Nodup := List.Pairwise.filter _ hr.nodup
   refine List.Pairwise.imp_of_mem (fun {c c'} hc hc' hne => ?_) hk
   intro a ha b hb e
   subst e
   obtain ⟨y, hy, rfl⟩ := List.mem_map.1 ha
   obtain ⟨y', hy', hs⟩ := List.mem_map.1 hb
   obtain ⟨h1, k, h2, _⟩ := mem_unf hr (mem_kids.1 hc).1 hy
   obtain ⟨h1', k', h2', _⟩ := mem_unf hr (mem_kids.1 hc').1 hy'
   rw [hs] at h2'
   rcases Nat.le_total k k' with hk | hk
   ·exact hne (anc_par hr h1 ht (mem_kids.1 hc).2 (mem_kids.1 hc').2 h2 h2' hk)
   ·exact hne (anc_par hr h1 ht (mem_kids.1 hc').2 (mem_kids.1 hc).2 h2' h2 hk).symm
theorem unf_kids {S : List Sp} : ∀ {n : Nat} {d : Int} {o : Bool} {t x : Sp} {y : Br}, Deep S n t → y ∈ unf S n d o t → x ∈ S → x.p = y.s.i → ∃ z ∈ unf S n d o t, z.s = x
 | 0, d, o, t, x, y, hd, hy, hx, hp => by
  unfold unf at hy
  rw [List.mem_singleton] at hy
  subst hy
  have : x ∈ kids S t.i := mem_kids.2 ⟨hx, hp⟩
  rw [show kids S t.i = [] from hd] at this
  simp at this
 | n + 1, d, o, t, x, y, hd, hy, hx, hp => by
  unfold unf at hy ⊢
  rcases List.mem_cons.1 hy with rfl | hy
  ·obtain ⟨r, hr⟩ := unf_head (S := S) n (d + 1) false x
   exact ⟨_, List.mem_cons_of_mem _ (List.mem_flatMap.2 ⟨x, mem_kids.2 ⟨hx, hp⟩, by rw [hr]; exact List.mem_cons_self ..⟩), rfl⟩
  ·obtain ⟨c, hc, hy⟩ := List.mem_flatMap.1 hy
   obtain ⟨z, hz, hzs⟩ := unf_kids (hd c hc) hy hx hp
   exact ⟨z, List.mem_cons_of_mem _ (List.mem_flatMap.2 ⟨c, hc, hz⟩), hzs⟩
def roots (S : List Sp) : List Sp := S.filter fun x => x.p == 0
def orphs (S : List Sp) : List Sp := S.filter fun x => !(x.p == 0) && !(fnd S x.p).isSome
def brs (S : List Sp) : List Br := (roots S).flatMap (unf S 64 0 false) ++ (orphs S).flatMap (unf S 64 0 true)
theorem Tidy.zero {S : List Sp} {r : Int → Nat} (h : Tidy S r) : fnd S 0 = none := by
 rw [fnd_none]
 intro x hx
 have := h.pos x hx
 omega
theorem mem_roots {S : List Sp} {x : Sp} : x ∈ roots S ↔ x ∈ S ∧ x.p = 0 := by
 unfold roots
 rw [List.mem_filter, beq_iff_eq]
theorem mem_orphs {S : List Sp} {x : Sp} : x ∈ orphs S ↔ x ∈ S ∧ x.p ≠ 0 ∧ fnd S x.p = none := by
 unfold orphs
 rw [List.mem_filter, Bool.and_eq_true, Bool.not_eq_true', Bool.not_eq_true', beq_eq_false_iff_ne, Option.isSome_eq_false_iff, Option.isNone_iff_eq_none]
theorem top_one {S : List Sp} {x t t' : Sp} {k k' : Nat} (h : anc S k x = some t) (h' : anc S k' x = some t') (ht : fnd S t.p = none) (ht' : fnd S t'.p = none) : t = t' := by
 rcases Nat.le_total k k' with hk | hk
 ·obtain ⟨j, rfl⟩ := Nat.exists_eq_add_of_le hk
  rw [anc_add h] at h'
  cases j with
  | zero => injection h'
  | succ j => unfold anc at h'; rw [ht] at h'; cases h'
 ·obtain ⟨j, rfl⟩ := Nat.exists_eq_add_of_le hk
  rw [anc_add h'] at h
  cases j with
  | zero => injection h with h; exact h.symm
  | succ j => unfold anc at h; rw [ht'] at h; cases h
theorem mem_brs {S : List Sp} {r : Int → Nat} (hr : Tidy S r) {y : Br} (hy : y ∈ brs S) : y.s ∈ S ∧ ∃ (t : Sp) (k : Nat), t ∈ S ∧ fnd S t.p = none ∧ anc S k y.s = some t ∧ y.d = k ∧ y.o = (!(t.p == 0) && k == 0) := by
 unfold brs at hy
 rcases List.mem_append.1 hy with hy | hy
 ·obtain ⟨t, ht, hy⟩ := List.mem_flatMap.1 hy
  obtain ⟨htS, htp⟩ := mem_roots.1 ht
  obtain ⟨h1, k, h2, h3, h4⟩ := mem_unf hr htS hy
  exact ⟨h1, t, k, htS, by rw [htp]; exact hr.zero, h2, by rw [h3]; omega, by rw [h4, htp]; rfl⟩
 ·obtain ⟨t, ht, hy⟩ := List.mem_flatMap.1 hy
  obtain ⟨htS, htp, htn⟩ := mem_orphs.1 ht
  obtain ⟨h1, k, h2, h3, h4⟩ := mem_unf hr htS hy
  exact ⟨h1, t, k, htS, htn, h2, by rw [h3]; omega, by rw [h4, beq_eq_false_iff_ne.2 htp]; rfl⟩
theorem tops_nodup {S : List Sp} {r : Int → Nat} (hr : Tidy S r) (T : List Sp) (o : Bool) (hT : T.Nodup) (hm : ∀ t ∈ T, t ∈ S ∧ fnd S t.p = none) : ((T.flatMap (unf S 64 0 o)).map Br.s).Nodup := by
 rw [List.map_flatMap]
 unfold List.Nodup
 rw [List.pairwise_flatMap]
 refine ⟨fun c hc => unf_nodup hr (hm c hc).1, ?_⟩
 refine List.Pairwise.imp_of_mem (fun {c c'} hc hc' hne => ?_) hT
 intro a ha b hb e
 subst e
 obtain ⟨y, hy, rfl⟩ := List.mem_map.1 ha
 obtain ⟨y', hy', hs⟩ := List.mem_map.1 hb
 obtain ⟨h1, k, h2, _⟩ := mem_unf hr (hm c hc).1 hy
 obtain ⟨h1', k', h2', _⟩ := mem_unf hr (hm c' hc').1 hy'
 rw [hs] at h2'
 exact hne (top_one h2 h2' (hm c hc).2 (hm c' hc').2)
theorem brs_nodup {S : List Sp} {r : Int → Nat} (hr : Tidy S r) : ((brs S).map Br.s).Nodup := by
 unfold brs
 rw [List.map_append, List.nodup_append]
 refine ⟨tops_nodup hr _ _ (List.Pairwise.filter _ hr.nodup) fun t ht => ?_, tops_nodup hr _ _ (List.Pairwise.filter _ hr.nodup) fun t ht => ?_, ?_⟩
 ·obtain ⟨h1, h2⟩ := mem_roots.1 ht
  exact ⟨h1, by rw [h2]; exact hr.zero⟩
 ·obtain ⟨h1, h2, h3⟩ := mem_orphs.1 ht
  exact ⟨h1, h3⟩
 ·intro a ha b hb e
  subst e
  obtain ⟨y, hy, rfl⟩ := List.mem_map.1 ha
  obtain ⟨y', hy', hs⟩ := List.mem_map.1 hb
  obtain ⟨t, ht, hy⟩ := List.mem_flatMap.1 hy
  obtain ⟨t', ht', hy'⟩ := List.mem_flatMap.1 hy'
  obtain ⟨g1, g2⟩ := mem_roots.1 ht
  obtain ⟨g1', g2', g3'⟩ := mem_orphs.1 ht'
  obtain ⟨h1, k, h2, _⟩ := mem_unf hr g1 hy
  obtain ⟨h1', k', h2', _⟩ := mem_unf hr g1' hy'
  rw [hs] at h2'
  have := top_one h2 h2' (by rw [g2]; exact hr.zero) g3'
  rw [← this] at g2'
  exact g2' g2
theorem brs_all {S : List Sp} {r : Int → Nat} (hr : Tidy S r) (hl : S.length ≤ 64) : ∀ (n : Nat) (x : Sp), r x.i ≤ n → x ∈ S → ∃ y ∈ brs S, y.s = x := by
 have top : ∀ x ∈ S, fnd S x.p = none → ∃ y ∈ brs S, y.s = x := fun x hx hf => by
  unfold brs
  by_cases hp : x.p = 0
  ·obtain ⟨q, hq⟩ := unf_head (S := S) 64 0 false x
   exact ⟨_, List.mem_append_left _ (List.mem_flatMap.2 ⟨x, mem_roots.2 ⟨hx, hp⟩, by rw [hq]; exact List.mem_cons_self ..⟩), rfl⟩
  ·obtain ⟨q, hq⟩ := unf_head (S := S) 64 0 true x
   exact ⟨_, List.mem_append_right _ (List.mem_flatMap.2 ⟨x, mem_orphs.2 ⟨hx, hp, hf⟩, by rw [hq]; exact List.mem_cons_self ..⟩), rfl⟩
 intro n
 induction n with
 | zero =>
  intro x hn hx
  cases hf : fnd S x.p with
  | none => exact top x hx hf
  | some u => have := hr.rises x hx u hf; omega
 | succ n ih =>
  intro x hn hx
  cases hf : fnd S x.p with
  | none => exact top x hx hf
  | some u =>
   have := hr.rises x hx u hf
   obtain ⟨y, hy, rfl⟩ := ih u (by omega) (fnd_mem hf).1
   unfold brs at hy ⊢
   rcases List.mem_append.1 hy with hy | hy
   ·obtain ⟨t, ht, hy⟩ := List.mem_flatMap.1 hy
    obtain ⟨z, hz, hzs⟩ := unf_kids (deep_all hr (mem_roots.1 ht).1 hl) hy hx (fnd_mem hf).2.symm
    exact ⟨z, List.mem_append_left _ (List.mem_flatMap.2 ⟨t, ht, hz⟩), hzs⟩
   ·obtain ⟨t, ht, hy⟩ := List.mem_flatMap.1 hy
    obtain ⟨z, hz, hzs⟩ := unf_kids (deep_all hr (mem_orphs.1 ht).1 hl) hy hx (fnd_mem hf).2.symm
    exact ⟨z, List.mem_append_right _ (List.mem_flatMap.2 ⟨t, ht, hz⟩), hzs⟩
theorem brs_perm {S : List Sp} {r : Int → Nat} (hr : Tidy S r) (hl : S.length ≤ 64) : ((brs S).map Br.s).Perm S := by
 rw [List.perm_ext_iff_of_nodup (brs_nodup hr) hr.nodup]
 intro x
 constructor
 ·intro hx
  obtain ⟨y, hy, rfl⟩ := List.mem_map.1 hx
  exact (mem_brs hr hy).1
 ·intro hx
  obtain ⟨y, hy, rfl⟩ := brs_all hr hl _ x (Nat.le_refl _) hx
  exact List.mem_map.2 ⟨y, hy, rfl⟩
theorem brs_len {S : List Sp} {r : Int → Nat} (hr : Tidy S r) (hl : S.length ≤ 64) : (brs S).length = S.length := by
 have := (brs_perm hr hl).length_eq
 rwa [List.length_map] at this
end Go.Proofs.YtionbmlicmibgaaGreatDoor
namespace Go.Proofs.YtionbmlicmibgaaGreatDoor
set_option linter.unusedVariables false
set_option linter.unusedSimpArgs false
open Go.RowKit
theorem Tryz.infoSp : (Tryz.prog.info? 30).map (fun i => (i.zero, i.size, i.bytes)) = some (some (.agg #[.int .i64 0, .int .i64 0, .int .i64 0, .int .i64 0, .int .i64 0, .string ⟨#[]⟩]), 6, 56) := by kernel_rfl
theorem run_push {B : Nat} {w : World} {v : Value} {l : List Sp} (h : OwnS B w v l) (x : Sp) (hB : B ≤ w.heap.size) (hs : l.length ≤ 1100000) :
  ∃ v' w', (Builtin.append_ #[22, 22] 22 #[v, .slice (some ⟨w.heap.size, 0, none⟩) 1 1]).run Tryz.prog (w.alloc (.cells #[.int .i64 x.t, .int .i64 x.i, .int .i64 x.p, .int .i64 x.s, .int .i64 x.e, .string x.n] 30)) = .ok v' w' ∧ OwnS B w' v' (l ++ [x]) ∧ Below B w w' ∧ w.grownBy w' v.ownBlock := by
 obtain ⟨i0, hi0, hz0, hz1, hz2⟩ := info_parts Tryz.infoSp
 have ho' := World.ownsRow.alloc h (.cells #[.int .i64 x.t, .int .i64 x.i, .int .i64 x.p, .int .i64 x.s, .int .i64 x.e, .string x.n] 30)
 obtain ⟨v', w', hr, h1, h2, _, h4⟩ := run_append_own_at (P := Tryz.prog) (w.alloc (.cells #[.int .i64 x.t, .int .i64 x.i, .int .i64 x.p, .int .i64 x.s, .int .i64 x.e, .string x.n] 30)) B 22 22 30 i0 _ 6 56 Tryz.underlying22 hi0 hz0 hz1 hz2 rfl (by decide) v l.length (l.flatMap spC) ho' ⟨w.heap.size, 0, none⟩ 1 1 (spC x) rfl
  (fun j u hj => by
   rw [add_lit0, Nat.zero_add, cell_of_row _ w.heap.size j _ 30 (0, 0) (heap_alloc_new w _)]
   simpa [spC] using hj)
  (spC_one x) (by simp only [maxLen]; omega) (by omega) (by simp; omega)
 have hb0 : Below B w (w.alloc (.cells #[.int .i64 x.t, .int .i64 x.i, .int .i64 x.p, .int .i64 x.s, .int .i64 x.e, .string x.n] 30)) := (Below.refl _ _).alloc hB _
 refine ⟨v', w', hr, ?_, hb0.grown h2 (by simp; omega) fun k hk => (World.ownsRow.lt h k hk).1, ?_⟩
 ·have : (l ++ [x]).flatMap spC = l.flatMap spC ++ spC x := by simp
  unfold OwnS
  rw [this, List.length_append]
  exact h1
 ·refine ⟨h2.os, h2.tape, h2.output, ?_, fun k hk hne => ?_⟩
  ·have := h2.size
   simp at this
   omega
  ·rw [h2.block k (by simp; omega) hne]
   exact heap_alloc_old _ _ hk
theorem wpList_push {w : World} {ops : Array Oper} {rest : List Oper} {o : Oper} {a : Act} {Q : Exit → Act → World → Prop} (hgd : o.guard = none) (s t : Operand)
  (ho : o.op = .call { callee := .builtin .append, args := #[s, t], argTypes := #[22, 22] }) (hty : o.type = 22) {B : Nat} {v : Value} {l : List Sp} (x : Sp)
  (hs : a.eval s = v) (ht : a.eval t = .slice (some ⟨w.heap.size, 0, none⟩) 1 1) (h : OwnS B w v l) (hB : B ≤ w.heap.size) (hn : l.length ≤ 1100000)
  (hK : ∀ v' w', OwnS B w' v' (l ++ [x]) → Below B w w' → w.grownBy w' v.ownBlock → wpList Tryz.prog ops Q rest (a.put o.dst v') w') : wpList Tryz.prog ops Q (o :: rest) a (w.alloc (.cells #[.int .i64 x.t, .int .i64 x.i, .int .i64 x.p, .int .i64 x.s, .int .i64 x.e, .string x.n] 30)) := by
 obtain ⟨v', w', hr, h1, h2, h3⟩ := run_push h x hB hn
 exact Lib.wpList_append_run_sl _ hgd s t 22 ho v _ hs ht (by rw [hty]; exact hr) (hK v' w' h1 h2 h3)
end Go.Proofs.YtionbmlicmibgaaGreatDoor
namespace Go.Proofs.YtionbmlicmibgaaGreatDoor
set_option linter.unusedVariables false
set_option linter.unusedSimpArgs false
open Go.RowKit
def heldS : Value → Option (DataW Value × List MemPlace)
 | .slice p n c => some (.held (.slice p n c), [])
 | _ => none
theorem heldS_inv {v u : Value} {ps : List MemPlace} (h : heldS v = some (.held u, ps)) : v = u := by
 cases v <;> simp [heldS] at h
 exact h.1
theorem heldS_row {w : World} {B n s : Nat} {e : TypeId} {v : Value} {xs : List Value} (h : w.ownsRow B e s v n xs) : heldS v = some (.held v, []) := by
 rcases h.2 with ⟨rfl, _⟩ | ⟨g, cap, cur, rfl, _⟩
 ·rfl
 ·rfl
theorem zeroSps (w : World) : (zeroValue 22).run Tryz.prog w = .ok (.slice none 0 0) w := by kernel_rfl
structure UndIs (w : World) (B b : Nat) (U : Int → List Sp) (V : Int → Value) (D : DataW Value) : Prop where
 map : w.ownsMap Tryz.prog 3 heldS b (Maps.size D) D
 vals : ∀ k, Maps.has D (.int .i64 k) = true → (∀ z, D.atKey (.int .i64 k) z = .held (V k)) ∧ OwnS B w (V k) (U k)
 none_ : ∀ k, Maps.has D (.int .i64 k) = false → U k = []
 blk : ∀ k i, Maps.has D (.int .i64 k) = true → (V k).ownBlock = some i → i ≠ b
 apart : ∀ k k' i, Maps.has D (.int .i64 k) = true → Maps.has D (.int .i64 k') = true → k ≠ k' → (V k).ownBlock = some i → (V k').ownBlock ≠ some i
def UndOff (b : Nat) (V : Int → Value) (D : DataW Value) (i : Nat) : Prop := i ≠ b ∧ ∀ k, Maps.has D (.int .i64 k) = true → (V k).ownBlock ≠ some i
theorem UndIs.grown {w w' : World} {B b : Nat} {U : Int → List Sp} {V : Int → Value} {D : DataW Value} {row : Option Nat} (h : UndIs w B b U V D) (hg : w.grownBy w' row) (ho : ∀ i, row = some i → UndOff b V D i) : UndIs w' B b U V D :=
 ⟨h.map.kept hg fun e => (ho b e.symm).1 rfl, fun k hk => ⟨(h.vals k hk).1, (h.vals k hk).2.grown hg (by
  rcases hv : (V k).ownBlock with _ | i
  ·exact .inl rfl
  ·exact .inr fun e => (ho i e.symm).2 k hk hv)⟩, h.none_, h.blk, h.apart⟩
theorem UndIs.lt {w : World} {B b : Nat} {U : Int → List Sp} {V : Int → Value} {D : DataW Value} (h : UndIs w B b U V D) : b < w.heap.size := h.map.lt
theorem UndIs.off_new {w : World} {B b : Nat} {U : Int → List Sp} {V : Int → Value} {D : DataW Value} (h : UndIs w B b U V D) {i : Nat} (hi : w.heap.size ≤ i) : UndOff b V D i :=
 ⟨by have := h.lt; omega, fun k hk e => by have := ((h.vals k hk).2.lt i e).2; omega⟩
theorem und_new (w : World) {B : Nat} (hB : B ≤ w.heap.size) (V : Int → Value) : UndIs (w.alloc (.map #[] 0)) B w.heap.size (fun _ => []) V (.map []) :=
 ⟨World.ownsMap_made w _ _ _, fun k h => (by cases h), fun k _ => rfl, fun k i h => (by cases h), fun k k' i h => (by cases h)⟩
theorem UndIs.look2 {w : World} {B b : Nat} {U : Int → List Sp} {V : Int → Value} {D : DataW Value} (h : UndIs w B b U V D) {k : Int} (hk : (Lit.int .i64 k).wf = true) :
  ∃ v, (∀ W : World, W.ownsMap Tryz.prog 3 heldS b (Maps.size D) D → (Instr.lookup 262 (.map (some b)) (.int .i64 k) false).run Tryz.prog W = .ok v W) ∧ OwnS B w v (U k) ∧ (Maps.has D (.int .i64 k) = true ∧ v = V k ∨ Maps.has D (.int .i64 k) = false ∧ v = .slice none 0 0) := by
 cases hh : Maps.has D (.int .i64 k) with
 | false =>
  refine ⟨.slice none 0 0, fun W hmap => ?_, by rw [h.none_ k hh]; exact OwnS.nil _ _, .inr ⟨rfl, rfl⟩⟩
  obtain ⟨v2, ps2, hrun2, hv2⟩ := hmap.lookup intK Tryz.underlying262 (zeroSps W) (zd := .held (.slice none 0 0)) (zp := []) rfl (keyI hk)
  rw [Maps.atKey_of_not_has hh] at hv2
  obtain rfl := heldS_inv hv2
  exact hrun2
 | true =>
  refine ⟨V k, fun W hmap => ?_, (h.vals k hh).2, .inl ⟨rfl, rfl⟩⟩
  obtain ⟨v2, ps2, hrun2, hv2⟩ := hmap.lookup intK Tryz.underlying262 (zeroSps W) (zd := .held (.slice none 0 0)) (zp := []) rfl (keyI hk)
  rw [(h.vals k hh).1] at hv2
  obtain rfl := heldS_inv hv2
  exact hrun2
theorem UndIs.look {w : World} {B b : Nat} {U : Int → List Sp} {V : Int → Value} {D : DataW Value} (h : UndIs w B b U V D) {k : Int} (hk : (Lit.int .i64 k).wf = true) :
  ∃ v, (∀ q, (Instr.lookup 262 (.map (some b)) (.int .i64 k) false).run Tryz.prog (w.drewN q) = .ok v (w.drewN q)) ∧ OwnS B w v (U k) ∧ (Maps.has D (.int .i64 k) = true ∧ v = V k ∨ Maps.has D (.int .i64 k) = false ∧ v = .slice none 0 0) := by
 cases hh : Maps.has D (.int .i64 k) with
 | false =>
  refine ⟨.slice none 0 0, fun q => ?_, by rw [h.none_ k hh]; exact OwnS.nil _ _, .inr ⟨rfl, rfl⟩⟩
  have hmap : (w.drewN q).ownsMap Tryz.prog 3 heldS b (Maps.size D) D := h.map
  obtain ⟨v2, ps2, hrun2, hv2⟩ := hmap.lookup intK Tryz.underlying262 (zeroSps (w.drewN q)) (zd := .held (.slice none 0 0)) (zp := []) rfl (keyI hk)
  rw [Maps.atKey_of_not_has hh] at hv2
  obtain rfl := heldS_inv hv2
  exact hrun2
 | true =>
  refine ⟨V k, fun q => ?_, (h.vals k hh).2, .inl ⟨rfl, rfl⟩⟩
  have hmap : (w.drewN q).ownsMap Tryz.prog 3 heldS b (Maps.size D) D := h.map
  obtain ⟨v2, ps2, hrun2, hv2⟩ := hmap.lookup intK Tryz.underlying262 (zeroSps (w.drewN q)) (zd := .held (.slice none 0 0)) (zp := []) rfl (keyI hk)
  rw [(h.vals k hh).1] at hv2
  obtain rfl := heldS_inv hv2
  exact hrun2
set_option maxRecDepth 20000 in
theorem UndIs.push {w w' : World} {B b : Nat} {U : Int → List Sp} {V : Int → Value} {D : DataW Value} (h : UndIs w B b U V D) {k : Int} (hk : (Lit.int .i64 k).wf = true) {x : Sp} {v v' : Value}
  (hv : Maps.has D (.int .i64 k) = true ∧ v = V k ∨ Maps.has D (.int .i64 k) = false ∧ v = .slice none 0 0) (ho : OwnS B w' v' (U k ++ [x])) (hg : w.grownBy w' v.ownBlock) (hvv : v'.ownBlock = v.ownBlock ∨ ∃ i, w.heap.size ≤ i ∧ v'.ownBlock = some i) (hN : Maps.size D ≤ 1100000) :
  ∃ w'', (Instr.mapUpdate 262 (.map (some b)) (.int .i64 k) v').run Tryz.prog w' = .ok () w'' ∧ w'.grownBy w'' (some b) ∧
   UndIs w'' B b (fun j => if j = k then U k ++ [x] else U j) (fun j => if j = k then v' else V j) (D.put (.int .i64 k) (.held v')) ∧ Maps.size (D.put (.int .i64 k) (.held v')) ≤ Maps.size D + 1 ∧
   (∀ i, UndOff b V D i → i < w.heap.size → UndOff b (fun j => if j = k then v' else V j) (D.put (.int .i64 k) (.held v')) i) := by
 have hoff : ∀ i, v.ownBlock = some i → i ≠ b ∧ ∀ j, j ≠ k → Maps.has D (.int .i64 j) = true → (V j).ownBlock ≠ some i := fun i hi => by
  rcases hv with ⟨hh, rfl⟩ | ⟨hh, rfl⟩
  ·exact ⟨h.blk k i hh hi, fun j hj hhj => h.apart k j i hh hhj (fun e => hj e.symm) hi⟩
  ·cases hi
 have hmap' : w'.ownsMap Tryz.prog 3 heldS b (Maps.size D) D := h.map.kept hg fun e => (hoff b e.symm).1 rfl
 obtain ⟨w'', hrun, hm', hg'⟩ := hmap'.update intK Tryz.underlying262 (by simp only [maxLen]; omega) (keyI hk) (d := .held v') (ps := []) (val := v') (heldS_row ho)
 have htidy := h.map.tidy intK
 have hlt' : b < w.heap.size := h.lt
 have hvb : ∀ i, v'.ownBlock = some i → i ≠ b ∧ ∀ j, j ≠ k → Maps.has D (.int .i64 j) = true → (V j).ownBlock ≠ some i := fun i hi => by
  rcases hvv with e | ⟨i', hi', e⟩
  ·rw [e] at hi; exact hoff i hi
  ·rw [e] at hi
   injection hi with hi
   subst hi
   have := h.off_new hi'
   exact ⟨this.1, fun j _ => this.2 j⟩
 have hhas : ∀ j, Maps.has (D.put (.int .i64 k) (.held v')) (.int .i64 j) = true → j = k ∨ (j ≠ k ∧ Maps.has D (.int .i64 j) = true) := fun j hj => by
  by_cases e : j = k
  ·exact .inl e
  ·rw [Maps.has_put_other (fun h => e (by injection h))] at hj
   exact .inr ⟨e, hj⟩
 refine ⟨w'', hrun, hg', ⟨bmap_tight hm', fun j hj => ?_, fun j hj => ?_, fun j i hj hi => ?_, fun j j' i hj hj' hne hi => ?_⟩, ?_, fun i hi hilt => ⟨hi.1, fun j hj => ?_⟩⟩
 ·rcases hhas j hj with rfl | ⟨e, hj⟩
  ·refine ⟨fun z => ?_, ?_⟩
   ·rw [Maps.atKey_put_same h.map.isMap (isKeyI _), if_pos rfl]
   ·simp only [if_true]
    exact ho.grown hg' (by
     rcases hvo : v'.ownBlock with _ | i
     ·exact .inl rfl
     ·exact .inr fun e => (hvb i hvo).1 (by injection e))
  ·refine ⟨fun z => ?_, ?_⟩
   ·rw [Maps.atKey_put_other (fun h => e (by injection h)), if_neg e, (h.vals j hj).1]
   ·simp only [if_neg e]
    refine ((h.vals j hj).2.grown hg ?_).grown hg' ?_
    ·rcases hvo : v.ownBlock with _ | i
     ·rcases hvj : (V j).ownBlock with _ | i'
      ·exact .inl rfl
      ·exact .inr (by simp)
     ·rcases hvj : (V j).ownBlock with _ | i'
      ·exact .inl rfl
      ·refine .inr fun e2 => ?_
       injection e2 with e2
       subst e2
       exact (hoff _ hvo).2 j e hj hvj
    ·rcases hvj : (V j).ownBlock with _ | i'
     ·exact .inl rfl
     ·exact .inr fun e2 => h.blk j i' hj hvj (by injection e2)
 ·have e : j ≠ k := by
   rintro rfl
   rw [Maps.has_put_same h.map.isMap (isKeyI _)] at hj
   cases hj
  rw [Maps.has_put_other (fun h => e (by injection h))] at hj
  simp only [if_neg e]
  exact h.none_ j hj
 ·rcases hhas j hj with rfl | ⟨e, hj⟩
  ·simp only [if_true] at hi
   exact (hvb i hi).1
  ·simp only [if_neg e] at hi
   exact h.blk j i hj hi
 ·rcases hhas j hj with rfl | ⟨e, hj1⟩
  ·rcases hhas j' hj' with e' | ⟨e', hj'⟩
   ·exact absurd e'.symm hne
   ·simp only [if_true] at hi
    simp only [if_neg e']
    exact (hvb i hi).2 j' e' hj'
  ·simp only [if_neg e] at hi
   rcases hhas j' hj' with e2 | ⟨e', hj2⟩
   ·simp only [if_pos e2]
    intro h2
    exact (hvb i h2).2 j e hj1 hi
   ·simp only [if_neg e']
    exact h.apart j j' i hj1 hj2 hne hi
 ·rw [Maps.size_put htidy]
  split <;> omega
 ·rcases hhas j hj with rfl | ⟨e, hj⟩
  ·simp only [if_true]
   rcases hvv with e | ⟨i', hi', e⟩
   ·rw [e]
    rcases hv with ⟨hh, rfl⟩ | ⟨hh, rfl⟩
    ·exact hi.2 j hh
    ·intro e2; cases e2
   ·rw [e]
    intro e2
    injection e2 with e2
    omega
  ·simp only [if_neg e]
   exact hi.2 j hj
end Go.Proofs.YtionbmlicmibgaaGreatDoor
namespace Go.Proofs.YtionbmlicmibgaaGreatDoor
set_option linter.unusedVariables false
set_option linter.unusedSimpArgs false
open Go.RowKit
end Go.Proofs.YtionbmlicmibgaaGreatDoor
namespace Go.Proofs.YtionbmlicmibgaaGreatDoor
set_option linter.unusedVariables false
set_option linter.unusedSimpArgs false
open Go.RowKit
def brC (x : Br) : List Value := [.int .i64 x.d, .bool x.o, .int .i64 x.s.t, .int .i64 x.s.i, .int .i64 x.s.p, .int .i64 x.s.s, .int .i64 x.s.e, .string x.s.n]
theorem brC_length (x : Br) : (brC x).length = 8 := rfl
theorem brC_one (x : Br) : ∀ v ∈ brC x, v.oneCell' = true := by
 intro v hv
 simp only [brC, List.mem_cons, List.not_mem_nil, or_false] at hv
 rcases hv with rfl | rfl | rfl | rfl | rfl | rfl | rfl | rfl <;> rfl
theorem bflat_len (l : List Br) : (l.flatMap brC).length = l.length * 8 := by
 induction l with
 | nil => rfl
 | cons x r ih => rw [List.flatMap_cons, List.length_append, ih, brC_length, List.length_cons]; omega
theorem bflat_at : ∀ (l : List Br) (i k : Nat) {x : Br}, l[i]? = some x → k < 8 → (l.flatMap brC)[i * 8 + k]? = (brC x)[k]?
 | [], i, k, x, h, _ => by simp at h
 | y :: r, 0, k, x, h, hk => by
  simp only [List.getElem?_cons_zero, Option.some.injEq] at h
  subst h
  rw [List.flatMap_cons, Nat.zero_mul, Nat.zero_add, List.getElem?_append_left (by rw [brC_length]; exact hk)]
 | y :: r, i + 1, k, x, h, hk => by
  rw [List.getElem?_cons_succ] at h
  rw [List.flatMap_cons, List.getElem?_append_right (by rw [brC_length]; omega), brC_length, show (i + 1) * 8 + k - 8 = i * 8 + k by omega]
  exact bflat_at r i k h hk
def BrAt (w : World) (g o : Nat) (x : Br) : Prop := ∀ (k : Nat) u, (brC x)[k]? = some u → w.cell? ⟨g, o + k, none⟩ = some u
theorem BrAt.c0 {w : World} {g o : Nat} {x : Br} (h : BrAt w g o x) : w.cell? ⟨g, o, none⟩ = some (.int .i64 x.d) := h 0 _ rfl
theorem BrAt.c1 {w : World} {g o : Nat} {x : Br} (h : BrAt w g o x) : w.cell? ⟨g, o + 1, none⟩ = some (.bool x.o) := h 1 _ rfl
theorem BrAt.c2 {w : World} {g o : Nat} {x : Br} (h : BrAt w g o x) : w.cell? ⟨g, o + 2, none⟩ = some (.int .i64 x.s.t) := h 2 _ rfl
theorem BrAt.c3 {w : World} {g o : Nat} {x : Br} (h : BrAt w g o x) : w.cell? ⟨g, o + 3, none⟩ = some (.int .i64 x.s.i) := h 3 _ rfl
theorem BrAt.c4 {w : World} {g o : Nat} {x : Br} (h : BrAt w g o x) : w.cell? ⟨g, o + 4, none⟩ = some (.int .i64 x.s.p) := h 4 _ rfl
theorem BrAt.c5 {w : World} {g o : Nat} {x : Br} (h : BrAt w g o x) : w.cell? ⟨g, o + 5, none⟩ = some (.int .i64 x.s.s) := h 5 _ rfl
theorem BrAt.c6 {w : World} {g o : Nat} {x : Br} (h : BrAt w g o x) : w.cell? ⟨g, o + 6, none⟩ = some (.int .i64 x.s.e) := h 6 _ rfl
theorem BrAt.c7 {w : World} {g o : Nat} {x : Br} (h : BrAt w g o x) : w.cell? ⟨g, o + 7, none⟩ = some (.string x.s.n) := h 7 _ rfl
theorem BrAt.below {w w' : World} {g o : Nat} {x : Br} (h : BrAt w g o x) (hb : Below w.heap.size w w') : BrAt w' g o x := fun k u hk => (hb.cell (lt_of_cell (h k u hk))).trans (h k u hk)
def Brs (w : World) (v : Value) (l : List Br) : Prop :=
 ∃ (p : Option Addr) (cap : Nat), v = .slice p l.length cap ∧ l.length ≤ cap ∧ cap ≤ maxLen ∧ (p = none → cap = 0) ∧
  (0 < l.length → ∃ g o, p = some ⟨g, o, none⟩ ∧ ∀ (i : Nat) x, l[i]? = some x → BrAt w g (o + i * 8) x)
theorem Brs.nil (w : World) : Brs w (.slice none 0 0) [] := ⟨none, 0, rfl, Nat.le_refl _, by simp [maxLen], fun _ => rfl, fun h => absurd h (Nat.lt_irrefl _)⟩
theorem Brs.sl {w : World} {v : Value} {l : List Br} (h : Brs w v l) : ∃ p n c, v = .slice p n c := by
 obtain ⟨p, c, e, _⟩ := h
 exact ⟨p, _, c, e⟩
theorem Brs.len {w : World} {p : Option Addr} {n c : Nat} {l : List Br} (h : Brs w (.slice p n c) l) : n = l.length ∧ n ≤ c ∧ c ≤ maxLen := by
 obtain ⟨p', c', e, hl, hm, _⟩ := h
 injection e with _ e2 e3
 subst e2 e3
 exact ⟨rfl, hl, hm⟩
theorem Brs.at_ {w : World} {p : Option Addr} {n c : Nat} {l : List Br} (h : Brs w (.slice p n c) l) (hn : 0 < n) : ∃ g o, p = some ⟨g, o, none⟩ ∧ ∀ (i : Nat) x, l[i]? = some x → BrAt w g (o + i * 8) x := by
 obtain ⟨p', c', e, _, _, _, hx⟩ := h
 injection e with e1 e2 e3
 subst e1 e2
 exact hx hn
theorem Brs.below {w w' : World} {v : Value} {l : List Br} (h : Brs w v l) (hb : Below w.heap.size w w') : Brs w' v l := by
 obtain ⟨p, c, rfl, hl, hm, hn, hx⟩ := h
 refine ⟨p, c, rfl, hl, hm, hn, fun h0 => ?_⟩
 obtain ⟨g, o, e, hx⟩ := hx h0
 exact ⟨g, o, e, fun i x hi => (hx i x hi).below hb⟩
def OwnB (B : Nat) (w : World) (v : Value) (l : List Br) : Prop := w.ownsRow B 90 8 v l.length (l.flatMap brC)
theorem OwnB.nil (B : Nat) (w : World) : OwnB B w (.slice none 0 0) [] := World.ownsRow_nil _ _ _ _
theorem OwnB.brs {B : Nat} {w : World} {v : Value} {l : List Br} (h : OwnB B w v l) : Brs w v l := by
 obtain ⟨hl, ⟨rfl, h0⟩ | ⟨g, cap, cur, rfl, hB, hh, hc, hm, hs, ht⟩⟩ := h
 ·obtain rfl : l = [] := List.eq_nil_of_length_eq_zero h0
  exact Brs.nil w
 ·refine ⟨_, cap, rfl, hc, hm, (fun e => by cases e), fun _ => ⟨g, 0, rfl, fun i x hi k u hk => ?_⟩⟩
  have hk6 : k < 8 := by
   have := (List.getElem?_eq_some_iff.1 hk).1
   rwa [brC_length] at this
  have hil := (List.getElem?_eq_some_iff.1 hi).1
  have h1 := bflat_at l i k hi hk6
  rw [hk, ← ht, List.getElem?_take_of_lt (by omega), Array.getElem?_toList] at h1
  rw [cell_of_row w g (0 + i * 8 + k) cur _ (0, 0) hh, Nat.zero_add]
  exact h1
theorem OwnB.lt {B : Nat} {w : World} {v : Value} {l : List Br} (h : OwnB B w v l) : ∀ k, v.ownBlock = some k → B ≤ k ∧ k < w.heap.size := World.ownsRow.lt h
theorem OwnB.mono {B B' : Nat} {w : World} {v : Value} {l : List Br} (h : OwnB B w v l) (hB : B' ≤ B) : OwnB B' w v l := ⟨h.1, h.2.imp id fun ⟨g, cap, cur, e, hb, r⟩ => ⟨g, cap, cur, e, Nat.le_trans hB hb, r⟩⟩
theorem OwnB.grown {B : Nat} {w w' : World} {v : Value} {l : List Br} {row : Option Nat} (h : OwnB B w v l) (hg : w.grownBy w' row) (hne : v.ownBlock = none ∨ v.ownBlock ≠ row) : OwnB B w' v l := World.ownsRow.kept h hg hne
theorem Tryz.infoBr : (Tryz.prog.info? 90).map (fun i => (i.zero, i.size, i.bytes)) = some (some (.agg #[.int .i64 0, .bool false, .int .i64 0, .int .i64 0, .int .i64 0, .int .i64 0, .int .i64 0, .string ⟨#[]⟩]), 8, 72) := by kernel_rfl
theorem run_pushB {B : Nat} {w : World} {v : Value} {l : List Br} (h : OwnB B w v l) (x : Br) (hB : B ≤ w.heap.size) (hs : l.length ≤ 1100000) :
  ∃ v' w', (Builtin.append_ #[88, 88] 88 #[v, .slice (some ⟨w.heap.size, 0, none⟩) 1 1]).run Tryz.prog (w.alloc (.cells #[.int .i64 x.d, .bool x.o, .int .i64 x.s.t, .int .i64 x.s.i, .int .i64 x.s.p, .int .i64 x.s.s, .int .i64 x.s.e, .string x.s.n] 90)) = .ok v' w' ∧ OwnB B w' v' (l ++ [x]) ∧ Below B w w' ∧ w.grownBy w' v.ownBlock ∧ (v'.ownBlock = v.ownBlock ∨ v'.ownBlock = some (w.heap.size + 1)) := by
 obtain ⟨i0, hi0, hz0, hz1, hz2⟩ := info_parts Tryz.infoBr
 have ho' := World.ownsRow.alloc h (.cells #[.int .i64 x.d, .bool x.o, .int .i64 x.s.t, .int .i64 x.s.i, .int .i64 x.s.p, .int .i64 x.s.s, .int .i64 x.s.e, .string x.s.n] 90)
 obtain ⟨v', w', hr, h1, h2, _, h4⟩ := run_append_own_at (P := Tryz.prog) (w.alloc (.cells #[.int .i64 x.d, .bool x.o, .int .i64 x.s.t, .int .i64 x.s.i, .int .i64 x.s.p, .int .i64 x.s.s, .int .i64 x.s.e, .string x.s.n] 90)) B 88 88 90 i0 _ 8 72 Tryz.underlying88 hi0 hz0 hz1 hz2 rfl (by decide) v l.length (l.flatMap brC) ho' ⟨w.heap.size, 0, none⟩ 1 1 (brC x) rfl
  (fun j u hj => by
   rw [add_lit0, Nat.zero_add, cell_of_row _ w.heap.size j _ 90 (0, 0) (heap_alloc_new w _)]
   simpa [brC] using hj)
  (brC_one x) (by simp only [maxLen]; omega) (by omega) (by simp; omega)
 have hb0 : Below B w (w.alloc (.cells #[.int .i64 x.d, .bool x.o, .int .i64 x.s.t, .int .i64 x.s.i, .int .i64 x.s.p, .int .i64 x.s.s, .int .i64 x.s.e, .string x.s.n] 90)) := (Below.refl _ _).alloc hB _
 refine ⟨v', w', hr, ?_, hb0.grown h2 (by simp; omega) fun k hk => (World.ownsRow.lt h k hk).1, ?_, ?_⟩
 ·have : (l ++ [x]).flatMap brC = l.flatMap brC ++ brC x := by simp
  unfold OwnB
  rw [this, List.length_append]
  exact h1
 ·refine ⟨h2.os, h2.tape, h2.output, ?_, fun k hk hne => ?_⟩
  ·have := h2.size
   simp at this
   omega
  ·rw [h2.block k (by simp; omega) hne]
   exact heap_alloc_old _ _ hk
 ·simpa using h4
theorem bflat_get2 {l : List Br} {j : Nat} {u : Value} (h : (l.flatMap brC)[j]? = some u) : ∃ x, l[j / 8]? = some x ∧ (brC x)[j % 8]? = some u := by
 have hj := (List.getElem?_eq_some_iff.1 h).1
 rw [bflat_len] at hj
 have hx : l[j / 8]? = some (l[j / 8]'(by omega)) := List.getElem?_eq_getElem _
 refine ⟨_, hx, ?_⟩
 rw [← bflat_at l (j / 8) (j % 8) hx (Nat.mod_lt _ (by omega)), show j / 8 * 8 + j % 8 = j by omega]
 exact h
theorem run_pushB_none {w : World} {v : Value} {l : List Br} {B : Nat} (hv : OwnB B w v l) (p : Option Addr) (c : Nat) : (Builtin.append_ #[88, 88] 88 #[v, .slice p 0 c]).run Tryz.prog w = .ok v w := by
 obtain ⟨i0, hi0, hz0, hz1, hz2⟩ := info_parts Tryz.infoBr
 obtain ⟨_, ⟨rfl, _⟩ | ⟨g, cap, cur, rfl, _, _, hl, _⟩⟩ := hv
 ·cases p <;> simp [Builtin.append_, run_underlying Tryz.underlying88, Go.sizeOf, typeInfo, hi0, Builtin.lenOf, Builtin.firstCells, loadCells, loadCellsFrom]
 ·cases p <;> simp [Builtin.append_, run_underlying Tryz.underlying88, Go.sizeOf, typeInfo, hi0, Builtin.lenOf, Builtin.firstCells, hl, storeCells, loadCells, loadCellsFrom]
theorem run_pushesB {B : Nat} {w : World} {v u : Value} {l m : List Br} (h : OwnB B w v l) (hu : Brs w u m) (hB : B ≤ w.heap.size) (hs : (l.length + m.length) * 72 ≤ 140737488355328) :
  ∃ v' w', (Builtin.append_ #[88, 88] 88 #[v, u]).run Tryz.prog w = .ok v' w' ∧ OwnB B w' v' (l ++ m) ∧ Below B w w' ∧ w.grownBy w' v.ownBlock := by
 obtain ⟨i0, hi0, hz0, hz1, hz2⟩ := info_parts Tryz.infoBr
 obtain ⟨p, n, c, rfl⟩ := hu.sl
 have hn := hu.len.1
 by_cases h0 : n = 0
 ·subst h0
  obtain rfl : m = [] := List.eq_nil_of_length_eq_zero hn.symm
  exact ⟨v, w, run_pushB_none h p c, by rw [List.append_nil]; exact h, Below.refl _ _, World.grownBy.refl _ _⟩
 ·obtain ⟨g, o, rfl, hx⟩ := hu.at_ (by omega)
  obtain ⟨v', w', hr, h1, h2, _, h4⟩ := run_append_own_at (P := Tryz.prog) w B 88 88 90 i0 _ 8 72 Tryz.underlying88 hi0 hz0 hz1 hz2 rfl (by decide) v l.length (l.flatMap brC) h ⟨g, o, none⟩ n c (m.flatMap brC) (by rw [bflat_len, hn])
   (fun j u hj => by
    obtain ⟨x, hxj, hk⟩ := bflat_get2 hj
    have := hx (j / 8) x hxj (j % 8) u hk
    rw [show o + j / 8 * 8 + j % 8 = o + j by omega] at this
    rw [add_lit0]
    exact this)
   (fun u hu => by
    obtain ⟨x, _, hx⟩ := List.mem_flatMap.1 hu
    exact brC_one x u hx) (by simp only [maxLen]; omega) (by omega) hB
  refine ⟨v', w', hr, ?_, (Below.refl _ _).grown h2 hB fun k hk => (World.ownsRow.lt h k hk).1, h2⟩
  unfold OwnB
  rw [List.flatMap_append, List.length_append, ← hn]
  exact h1
theorem wpList_pushesB {w : World} {ops : Array Oper} {rest : List Oper} {o : Oper} {a : Act} {Q : Exit → Act → World → Prop} (hgd : o.guard = none) (s t : Operand)
  (ho : o.op = .call { callee := .builtin .append, args := #[s, t], argTypes := #[88, 88] }) (hty : o.type = 88) {B : Nat} {v u : Value} {l m : List Br}
  (hs : a.eval s = v) (ht : a.eval t = u) (h : OwnB B w v l) (hu : Brs w u m) (hB : B ≤ w.heap.size) (hn : (l.length + m.length) * 72 ≤ 140737488355328)
  (hK : ∀ v' w', OwnB B w' v' (l ++ m) → Below B w w' → w.grownBy w' v.ownBlock → wpList Tryz.prog ops Q rest (a.put o.dst v') w') : wpList Tryz.prog ops Q (o :: rest) a w := by
 obtain ⟨v', w', hr, h1, h2, h3⟩ := run_pushesB h hu hB hn
 exact Lib.wpList_append_run_sl _ hgd s t 88 ho v _ hs ht (by rw [hty]; exact hr) (hK v' w' h1 h2 h3)
end Go.Proofs.YtionbmlicmibgaaGreatDoor
namespace Go.Proofs.YtionbmlicmibgaaGreatDoor
set_option linter.unusedVariables false
set_option linter.unusedSimpArgs false
open Go.RowKit
def Ext2 (w : World) (v : Value) (w' : World) (v' : Value) : Prop := w.grownBy w' v.ownBlock ∧ (v'.ownBlock = v.ownBlock ∨ ∃ i, w.heap.size ≤ i ∧ v'.ownBlock = some i)
theorem Ext2.refl (w : World) (v : Value) : Ext2 w v w v := ⟨World.grownBy.refl _ _, .inl rfl⟩
theorem Ext2.trans {w w1 w2 : World} {v v1 v2 : Value} (h : Ext2 w v w1 v1) (h' : Ext2 w1 v1 w2 v2) : Ext2 w v w2 v2 := by
 obtain ⟨g, o⟩ := h
 obtain ⟨g', o'⟩ := h'
 refine ⟨⟨g'.os.trans g.os, g'.tape.trans g.tape, g'.output.trans g.output, Nat.le_trans g.size g'.size, fun k hk hne => ?_⟩, ?_⟩
 ·refine (g'.block k (Nat.lt_of_lt_of_le hk g.size) fun e => ?_).trans (g.block k hk hne)
  rcases o with o | ⟨i, hi, o⟩
  ·exact hne (e.trans o)
  ·rw [o] at e
   injection e with e
   omega
 ·rcases o' with o' | ⟨i, hi, o'⟩
  ·rcases o with o | ⟨j, hj, o⟩
   ·exact .inl (o'.trans o)
   ·exact .inr ⟨j, hj, o'.trans o⟩
  ·exact .inr ⟨i, Nat.le_trans g.size hi, o'⟩
theorem Ext2.alloc (w : World) (v : Value) (o : Obj) : Ext2 w v (w.alloc o) v := ⟨World.grownBy_alloc w o _, .inl rfl⟩
theorem UndIs.ext {w w' : World} {B b : Nat} {U : Int → List Sp} {V : Int → Value} {D : DataW Value} {v v' : Value} (h : UndIs w B b U V D) (he : Ext2 w v w' v') (ho : ∀ i, v.ownBlock = some i → UndOff b V D i) : UndIs w' B b U V D ∧ ∀ i, v'.ownBlock = some i → UndOff b V D i :=
 ⟨h.grown he.1 fun i hi => ho i hi, fun i hi => by
  rcases he.2 with e | ⟨j, hj, e⟩
  ·exact ho i (by rw [← e]; exact hi)
  ·rw [e] at hi
   injection hi with hi
   subst hi
   exact h.off_new hj⟩
theorem UndIs.val {w : World} {B b : Nat} {U : Int → List Sp} {V : Int → Value} {D : DataW Value} (h : UndIs w B b U V D) {k : Int} {v : Value} (hv : Maps.has D (.int .i64 k) = true ∧ v = V k ∨ Maps.has D (.int .i64 k) = false ∧ v = .slice none 0 0) : OwnS B w v (U k) := by
 rcases hv with ⟨hh, rfl⟩ | ⟨hh, rfl⟩
 ·exact (h.vals k hh).2
 ·rw [h.none_ k hh]
  exact OwnS.nil _ _
theorem cell_ext {w w' : World} {v v' : Value} (h : Ext2 w v w' v') {g i : Nat} {u : Value} (hc : w.cell? ⟨g, i, none⟩ = some u) (hne : v.ownBlock ≠ some g) : w'.cell? ⟨g, i, none⟩ = some u :=
 (World.cell?_of_block (a := ⟨g, i, none⟩) (h.1.block g (lt_of_cell hc) fun e => hne e.symm)).trans hc
theorem wpList_pushB {w : World} {ops : Array Oper} {rest : List Oper} {o : Oper} {a : Act} {Q : Exit → Act → World → Prop} (hgd : o.guard = none) (s t : Operand)
  (ho : o.op = .call { callee := .builtin .append, args := #[s, t], argTypes := #[88, 88] }) (hty : o.type = 88) {B : Nat} {v : Value} {l : List Br} (x : Br)
  {H : Nat} (hs : a.eval s = v) (ht : a.eval t = .slice (some ⟨H, 0, none⟩) 1 1) (hH : H = w.heap.size) (h : OwnB B w v l) (hB : B ≤ w.heap.size) (hn : l.length ≤ 1100000)
  (hK : ∀ v' w', OwnB B w' v' (l ++ [x]) → Ext2 w v w' v' → wpList Tryz.prog ops Q rest (a.put o.dst v') w') : wpList Tryz.prog ops Q (o :: rest) a (w.alloc (.cells #[.int .i64 x.d, .bool x.o, .int .i64 x.s.t, .int .i64 x.s.i, .int .i64 x.s.p, .int .i64 x.s.s, .int .i64 x.s.e, .string x.s.n] 90)) := by
 subst hH
 obtain ⟨v', w', hr, h1, h2, h3, h4⟩ := run_pushB h x hB hn
 refine Lib.wpList_append_run_sl _ hgd s t 88 ho v _ hs ht (by rw [hty]; exact hr) (hK v' w' h1 ⟨h3, ?_⟩)
 rcases h4 with h4 | h4
 ·exact .inl h4
 ·exact .inr ⟨_, by omega, h4⟩
def UnfPost (B : Nat) (w : World) (v : Value) (l : List Br) (e : Ending) (w' : World) : Prop := ∃ p n c, e = .returned (.slice p n c) ∧ OwnB B w' (.slice p n c) l ∧ Ext2 w v w' (.slice p n c)
theorem brAt_new (w : World) (x : Br) : BrAt (w.alloc (.cells #[.int .i64 x.d, .bool x.o, .int .i64 x.s.t, .int .i64 x.s.i, .int .i64 x.s.p, .int .i64 x.s.s, .int .i64 x.s.e, .string x.s.n] 90)) w.heap.size 0 x := fun k u hk => by
 rw [Nat.zero_add, cell_of_row _ w.heap.size k _ 90 (0, 0) (heap_alloc_new w _)]
 simpa [brC] using hk
set_option maxRecDepth 200000 in
set_option maxHeartbeats 1100000 in
theorem unfold_step {B B0 b : Nat} {N : Int} {U : Int → List Sp} {V : Int → Value} {D : DataW Value} {S : List Sp} (n : Nat) (w : World) (p : Option Addr) (m c : Nat) (l : List Br) (x : Br) (hkid : U x.s.i = kids S x.s.i) (hwfx : (Lit.int .i64 x.s.i).wf = true)
  (ih : ∀ (w : World) (p : Option Addr) (m c : Nat) (l : List Br) (z : Br), z.s ∈ kids S x.s.i → UndIs w B0 b U V D → (∀ i, (Value.slice p m c).ownBlock = some i → UndOff b V D i) → B ≤ w.heap.size → OwnB B w (.slice p m c) l → 0 ≤ z.d → z.d + n ≤ N → l.length + (unf S n z.d z.o z.s).length ≤ 1100000 →
   Calls Tryz.prog 196 #[.slice p m c, .agg #[.int .i64 z.d, .bool z.o, .int .i64 z.s.t, .int .i64 z.s.i, .int .i64 z.s.p, .int .i64 z.s.s, .int .i64 z.s.e, .string z.s.n], .map (some b)] w (UnfPost B w (.slice p m c) (l ++ unf S n z.d z.o z.s)))
  (hU : UndIs w B0 b U V D) (hoff : ∀ i, (Value.slice p m c).ownBlock = some i → UndOff b V D i) (hB : B ≤ w.heap.size) (ho : OwnB B w (.slice p m c) l) (hd0 : 0 ≤ x.d) (hdn : x.d + (n + 1 : Nat) ≤ N) (hN : N ≤ 1000) (hlen : l.length + (unf S (n + 1) x.d x.o x.s).length ≤ 1100000) :
  Calls Tryz.prog 196 #[.slice p m c, .agg #[.int .i64 x.d, .bool x.o, .int .i64 x.s.t, .int .i64 x.s.i, .int .i64 x.s.p, .int .i64 x.s.s, .int .i64 x.s.e, .string x.s.n], .map (some b)] w (UnfPost B w (.slice p m c) (l ++ unf S (n + 1) x.d x.o x.s)) := by
  have IH := hide ih
  clear ih
  have hX : OwnB B (w.alloc (.cells #[.int .i64 x.d, .bool x.o, .int .i64 x.s.t, .int .i64 x.s.i, .int .i64 x.s.p, .int .i64 x.s.s, .int .i64 x.s.e, .string x.s.n] 90)) (.slice p m c) l := World.ownsRow.alloc ho _
  have hnew := brAt_new w x
  have hrec : unf S (n + 1) x.d x.o x.s = [⟨x.d, x.o, x.s⟩] ++ (kids S x.s.i).flatMap (unf S n (x.d + 1) false) := rfl
  have hvw : ∀ i, (Value.slice p m c).ownBlock = some i → i < w.heap.size := fun i hi => (ho.lt i hi).2
  have hUX := (hU.ext (Ext2.alloc w (.slice p m c) (.cells #[.int .i64 x.d, .bool x.o, .int .i64 x.s.t, .int .i64 x.s.i, .int .i64 x.s.p, .int .i64 x.s.s, .int .i64 x.s.e, .string x.s.n] 90)) hoff)
  have hll : l.length ≤ 1100000 := by omega
  have hKl : ∀ k, l.length + 1 + (((kids S x.s.i).take k).flatMap (unf S n (x.d + 1) false)).length ≤ 1100000 := fun k => by
   rw [hrec, List.length_append, List.length_singleton] at hlen
   have h1 : (kids S x.s.i).flatMap (unf S n (x.d + 1) false) = ((kids S x.s.i).take k).flatMap (unf S n (x.d + 1) false) ++ ((kids S x.s.i).drop k).flatMap (unf S n (x.d + 1) false) := by
    rw [← List.flatMap_append, List.take_append_drop]
   rw [h1, List.length_append] at hlen
   omega
  obtain ⟨K, hKdef⟩ : ∃ K, kids S x.s.i = K := ⟨_, rfl⟩
  rw [hKdef] at hkid hKl hrec IH
  rw [hrec]
  have HX := hide hX
  have HNEW := hide hnew
  have HVW := hide hvw
  have HUX := hide hUX
  have HKL := hide hKl
  have HKID := hide hkid
  have HOFF := hide hoff
  clear hX hnew hvw hUX hKl hkid hoff hrec hU hlen hKdef ho
  obtain ⟨d, o, t, i, q, s, en, nm⟩ := x
  dsimp only at *
  go_enter Tryz.func196, Tryz.ntmps196
  go_wp2_with (at_builtin; go_must (refine wpList_pushB (v := .slice p m c) rfl _ _ rfl rfl ⟨d, o, t, i, q, s, en, nm⟩ rfl rfl (by simp) HX.out (by simp; omega) hll ?_); intro v2 w2 ho2 he2; obtain ⟨p2, m2, c2, rfl⟩ := ho2.brs.sl; have hne : (Value.slice p m c).ownBlock ≠ some w.heap.size := (fun e => by have := HVW.out _ e; omega); have hat := HNEW.out; have k0 := cell_ext he2 hat.c0 hne; have k3 := cell_ext he2 hat.c3 hne; dsimp only [Nat.zero_add] at k0 k3; have hu2 := HUX.out.1.ext he2 HUX.out.2; obtain ⟨vv, hlk, hov, hvv⟩ := hu2.1.look hwfx; rw [HKID.out] at hov; obtain ⟨pv, nv, cv, rfl⟩ := hov.sps.sl; have hlk0 : (Instr.lookup 262 (.map (some b)) (.int .i64 i) false).run Tryz.prog w2 = .ok (.slice pv nv cv) w2 := hlk 0; have hlv := hov.sps.len.1; have HO2 := hide (And.intro ho2 (And.intro he2 hvv)); clear hat hlk ho2 he2 hu2 hvv hov)
  have HLV := hide hlv
  clear hlv hlk0
  go_loopw [0, 8, 19] (fun v _ ix wr => ∃ (k : Nat) (p' : Option Addr) (m' c' : Nat), v = .slice p' m' c' ∧ k ≤ K.length ∧ ix = .int .i64 k ∧ Hid (OwnB B wr (.slice p' m' c') (l ++ ([⟨d, o, ⟨t, i, q, s, en, nm⟩⟩] ++ (K.take k).flatMap (unf S n (d + 1) false))) ∧ Ext2 (w.alloc (.cells #[.int .i64 d, .bool o, .int .i64 t, .int .i64 i, .int .i64 q, .int .i64 s, .int .i64 en, .string nm] 90)) (.slice p m c) wr (.slice p' m' c'))) (fun _ _ i _ => K.length - (intOf i).toNat)
  case atStart => exact ⟨0, p2, m2, c2, rfl, Nat.zero_le _, rfl, hide ⟨HO2.out.1, HO2.out.2.1⟩⟩
  case round =>
   obtain ⟨k, p', m', c', rfl, hk, rfl, HR⟩ := hrel
   by_cases hlt : k < K.length
   ·have hlt2 : (k : Int) < (nv : Int) := by have := HLV.out; omega
    have hu := HUX.out.1.ext HR.out.2 HUX.out.2
    have hov := hu.1.val HO2.out.2.2
    rw [HKID.out] at hov
    obtain ⟨g, oo0, rfl, hx⟩ := hov.sps.at_ (by omega)
    obtain ⟨y, hy⟩ : ∃ y, K[k]? = some y := ⟨_, List.getElem?_eq_getElem (by have := HLV.out; omega)⟩
    have hat := hx k y hy
    obtain ⟨oo, hoo⟩ : ∃ oo, oo0 + k * 6 = oo := ⟨_, rfl⟩
    rw [hoo] at hat
    have z0 := hat.c0
    have z1 := hat.c1
    have z2 := hat.c2
    have z3 := hat.c3
    have z4 := hat.c4
    have z5 := hat.c5
    have htop := cell_ext HR.out.2 HNEW.out.c0 hne
    dsimp only [Nat.zero_add] at htop
    have htw : w.heap.size < wr.heap.size := lt_of_cell htop
    have htn : w.heap.size ≠ wr.heap.size := by omega
    have hyK := List.mem_of_getElem? hy
    have hnl : nv ≤ 9223372036854775807 := by have := (hov.sps.len).2; unfold maxLen at this; omega
    have hlen' := HKL.out (k + 1)
    have htk : K.take (k + 1) = K.take k ++ [y] := by rw [List.take_add_one, hy]; rfl
    rw [htk, List.flatMap_append, List.length_append] at hlen'
    have hfl : [y].flatMap (unf S n (d + 1) false) = unf S n (d + 1) false y := by simp
    rw [hfl] at hlen'
    have HLEN := hide hlen'
    have HTK := hide (And.intro htk hfl)
    have HU := hide hu
    have HY := hide hyK
    have HY2 := hide hy
    clear hu hov hx hat hyK hlen' htk hfl hy
    obtain ⟨yt, yi, yp, ys, ye, yn⟩ := y
    dsimp only at *
    have hcall := IH.out (wr.alloc (.cells #[.int .i64 yt, .int .i64 yi, .int .i64 yp, .int .i64 ys, .int .i64 ye, .string yn] 30)) p' m' c' (l ++ ([(⟨d, o, ⟨t, i, q, s, en, nm⟩⟩ : Br)] ++ (K.take k).flatMap (unf S n (d + 1) false))) ⟨d + 1, false, ⟨yt, yi, yp, ys, ye, yn⟩⟩ HY.out
     (HU.out.1.ext (Ext2.alloc wr (.slice p' m' c') _) HU.out.2).1 HU.out.2 (by simp; omega) (show OwnB B (wr.alloc _) (.slice p' m' c') _ from World.ownsRow.alloc HR.out.1 _) (by simp only; omega) (by simp only; omega) (by
      have := HLEN.out
      simp only [List.length_append, List.length_singleton] at this ⊢
      omega)
    have HC := hide hcall
    clear hcall
    dsimp only at HC
    have hd1 : d + 1 ≤ 1000 := by omega
    go_wp2_with fail
    refine HC.out.mono ?_
    rintro e3 w3 ⟨p3, m3, c3, rfl, ho3, he3⟩
    have HO3 := hide (And.intro ho3 ((HR.out.2.trans (Ext2.alloc wr (.slice p' m' c') _)).trans he3))
    clear ho3 he3
    go_wp2
    go_roundw
    case rel =>
     refine ⟨k + 1, p3, m3, c3, rfl, by have := HLV.out; omega, by go_num, hide ⟨?_, HO3.out.2⟩⟩
     rw [HTK.out.1, List.flatMap_append, HTK.out.2]
     have := HO3.out.1
     simpa only [List.append_assoc] using this
    case measure => simp [intOf]; have := HLV.out; omega
   ·have hkK : k = K.length := by omega
    subst hkK
    have hfin := HR.out.1
    rw [List.take_length] at hfin
    have HF := hide hfin
    clear hfin
    go_wp2
    go_ret
    exact ⟨p', m', c', rfl, HF.out, (Ext2.alloc w (.slice p m c) _).trans HR.out.2⟩
theorem unfold_any {B B0 b : Nat} {U : Int → List Sp} {V : Int → Value} {D : DataW Value} {S : List Sp} (hUS : ∀ t ∈ S, U t.i = kids S t.i) (hwf : ∀ t ∈ S, (Lit.int .i64 t.i).wf = true) :
  ∀ (n : Nat) (w : World) (p : Option Addr) (m c : Nat) (l : List Br) (x : Br), x.s ∈ S → Deep S n x.s → UndIs w B0 b U V D → (∀ i, (Value.slice p m c).ownBlock = some i → UndOff b V D i) → B ≤ w.heap.size → OwnB B w (.slice p m c) l → 0 ≤ x.d → x.d + n + 1 ≤ 1000 → l.length + (unf S n x.d x.o x.s).length ≤ 1100000 →
  Calls Tryz.prog 196 #[.slice p m c, .agg #[.int .i64 x.d, .bool x.o, .int .i64 x.s.t, .int .i64 x.s.i, .int .i64 x.s.p, .int .i64 x.s.s, .int .i64 x.s.e, .string x.s.n], .map (some b)] w (UnfPost B w (.slice p m c) (l ++ unf S n x.d x.o x.s))
 | 0, w, p, m, c, l, x, hx, hd, hU, hoff, hB, ho, hd0, hdn, hlen => by
  rw [unf_more (d := x.d) (o := x.o) hd (Nat.le_succ 0)] at hlen ⊢
  exact unfold_step 0 w p m c l x (hUS _ hx) (hwf _ hx) (fun w p m c l z hz => by rw [show kids S x.s.i = [] from hd] at hz; simp at hz) hU hoff hB ho hd0 (N := 1000) (by simp at hdn ⊢; omega) (Int.le_refl _) hlen
 | n + 1, w, p, m, c, l, x, hx, hd, hU, hoff, hB, ho, hd0, hdn, hlen =>
  unfold_step n w p m c l x (hUS _ hx) (hwf _ hx) (fun w p m c l z hz hU hoff hB ho hd0' hdn' hlen => by
   obtain ⟨h1, h2⟩ := mem_kids.1 hz
   exact unfold_any hUS hwf n w p m c l z h1 (hd z.s hz) hU hoff hB ho hd0' (by omega) hlen) hU hoff hB ho hd0 (N := 999) (by omega) (by decide) hlen
end Go.Proofs.YtionbmlicmibgaaGreatDoor
namespace Go.Proofs.YtionbmlicmibgaaGreatDoor
set_option linter.unusedVariables false
set_option linter.unusedSimpArgs false
open Go.RowKit
def cn0 : Cn := ⟨0, 0, 0, 0, 0⟩
def Cn.plus (a b : Cn) : Cn := ⟨a.add + b.add, a.same + b.same, a.other + b.other, a.cyc + b.cyc, a.full + b.full⟩
theorem Cn.plus0 (a : Cn) : a.plus cn0 = a := rfl
theorem Cn.plus_assoc (a b c : Cn) : (a.plus b).plus c = a.plus (b.plus c) := by
 unfold Cn.plus
 simp only [Nat.add_assoc]
theorem Cn.zero_plus (a : Cn) : cn0.plus a = a := by
 unfold Cn.plus cn0
 simp only [Nat.zero_add]
noncomputable def addP (tr : Int) (L l : List Sp) : List Sp := if l.all (fun x => x.ok && decide (x.t = tr)) = true then (putsP L cn0 l).1 else L
theorem ok_ne {x : Sp} (h : x.ok = true) : x.p ≠ x.i := ((Sp.ok_iff x).1 h).ne
theorem foOk_nil (tr : Int) : FoOk tr [] := ⟨List.Pairwise.nil, noRing_nil, fun x hx => by simp at hx, by simp⟩
theorem FoOk.perm {tr : Int} {L M : List Sp} (h : FoOk tr L) (hp : M.Perm L) : FoOk tr M := by
 have hids : M.Pairwise fun x y => x.i ≠ y.i := hp.symm.pairwise h.ids (fun {x y} hxy e => hxy e.symm)
 have hfnd : ∀ k u, fnd M k = some u → fnd L k = some u := fun k u hu => by
  obtain ⟨h1, h2⟩ := fnd_mem hu
  rw [← h2]
  exact fnd_of h.ids (hp.mem_iff.1 h1)
 obtain ⟨r, hr⟩ := h.rises
 exact ⟨hids, ⟨r, fun x hx u hu => hr x (hp.mem_iff.1 hx) u (hfnd _ _ hu)⟩, fun x hx => h.ok x (hp.mem_iff.1 hx), by rw [hp.length_eq]; exact h.len⟩
theorem FoOk.sort {tr : Int} {L : List Sp} (h : FoOk tr L) : FoOk tr (sortS L) := h.perm (sortS_perm L)
theorem FoOk.tidy {tr : Int} {L : List Sp} (h : FoOk tr L) : ∃ r, Tidy L r := by
 obtain ⟨r, hr⟩ := h.rises
 exact ⟨r, h.ids, hr, fun x hx => ((Sp.ok_iff x).1 (h.ok x hx).1).i1⟩
theorem fnd_perm {L M : List Sp} (h : L.Pairwise fun x y => x.i ≠ y.i) (hp : M.Perm L) (k : Int) : fnd M k = fnd L k := by
 have hids : M.Pairwise fun x y => x.i ≠ y.i := hp.symm.pairwise h (fun {x y} hxy e => hxy e.symm)
 cases hf : fnd L k with
 | none =>
  rw [fnd_none] at hf ⊢
  exact fun x hx => hf x (hp.mem_iff.1 hx)
 | some u =>
  obtain ⟨h1, h2⟩ := fnd_mem hf
  rw [← h2]
  exact fnd_of hids (hp.mem_iff.2 h1)
end Go.Proofs.YtionbmlicmibgaaGreatDoor
