import Derived.Test.YtionbmlicmibgaaGreatDoorBase
import Derived.Test.YtionbmlicmibgaaGreatDoorS5
import Derived.Test.YtionbmlicmibgaaGreatDoorS3
namespace Go.Proofs.YtionbmlicmibgaaGreatDoor
set_option linter.unusedVariables false
set_option linter.unusedSimpArgs false
section
variable {α β : Type} {κ : α → Int}
def fndK (κ : α → Int) (L : List α) (k : Int) : Option α := L.find? fun x => κ x == k
theorem fndK_mem {L : List α} {k : Int} {x : α} (h : fndK κ L k = some x) : x ∈ L ∧ κ x = k := by
 have h1 := List.find?_some h
 exact ⟨List.mem_of_find?_eq_some h, by simpa using h1⟩
theorem fndK_none {L : List α} {k : Int} : fndK κ L k = none ↔ ∀ x ∈ L, κ x ≠ k := by
 unfold fndK
 rw [List.find?_eq_none]
 simp
def RisesK (κ : α → Int) (L : List α) : Prop := L.Pairwise fun x y => κ x < κ y
theorem RisesK.ids {L : List α} (h : RisesK κ L) : L.Pairwise fun x y => κ x ≠ κ y := List.Pairwise.imp (S := fun x y : α => κ x ≠ κ y) (fun {a b} (h : κ a < κ b) => by omega) (show L.Pairwise fun x y => κ x < κ y from h)
theorem fndK_of {L : List α} (h : L.Pairwise fun x y => κ x ≠ κ y) {x : α} (hx : x ∈ L) : fndK κ L (κ x) = some x := by
 induction L with
 | nil => simp at hx
 | cons y r ih =>
  rw [List.pairwise_cons] at h
  unfold fndK
  rw [List.find?_cons]
  rcases List.mem_cons.1 hx with rfl | hx
  ·simp
  ·have := h.1 x hx
   simp only [beq_eq_false_iff_ne.2 this]
   exact ih h.2 hx
def insK (κ : α → Int) : List α → α → List α
 | [], x => [x]
 | y :: r, x => if κ x < κ y then x :: y :: r else if κ x = κ y then x :: r else y :: insK κ r x
theorem fndK_ins (κ : α → Int) (L : List α) (x : α) (k : Int) : fndK κ (insK κ L x) k = if κ x = k then some x else fndK κ L k := by
 induction L with
 | nil =>
  unfold insK fndK
  by_cases h : κ x = k <;> simp [h]
 | cons y r ih =>
  unfold insK
  by_cases h1 : κ x < κ y
  ·rw [if_pos h1]
   unfold fndK
   by_cases h : κ x = k <;> simp [List.find?_cons, h]
  ·rw [if_neg h1]
   by_cases h2 : κ x = κ y
   ·rw [if_pos h2]
    unfold fndK
    by_cases h : κ x = k
    ·simp [List.find?_cons, h]
    ·have : ¬ κ y = k := by omega
     simp [List.find?_cons, h, this]
   ·rw [if_neg h2]
    unfold fndK at ih ⊢
    rw [List.find?_cons, List.find?_cons]
    by_cases h : κ y = k
    ·have : ¬ κ x = k := by omega
     simp [h, this]
    ·simp only [beq_eq_false_iff_ne.2 h]
     exact ih
theorem mem_insK {L : List α} {x y : α} (h : y ∈ insK κ L x) : y = x ∨ (y ∈ L ∧ κ y ≠ κ x) ∨ y ∈ L := by
 induction L with
 | nil =>
  unfold insK at h
  simp at h
  exact .inl h
 | cons z r ih =>
  unfold insK at h
  split at h
  ·rcases List.mem_cons.1 h with h | h
   ·exact .inl h
   ·exact .inr (.inr h)
  ·split at h
   ·rcases List.mem_cons.1 h with h | h
    ·exact .inl h
    ·exact .inr (.inr (List.mem_cons_of_mem _ h))
   ·rcases List.mem_cons.1 h with h | h
    ·exact .inr (.inr (by rw [h]; exact List.mem_cons_self ..))
    ·rcases ih h with h | ⟨h, _⟩ | h
     ·exact .inl h
     ·exact .inr (.inr (List.mem_cons_of_mem _ h))
     ·exact .inr (.inr (List.mem_cons_of_mem _ h))
theorem mem_insK' {L : List α} {x y : α} (h : y ∈ insK κ L x) : y = x ∨ y ∈ L := by
 rcases mem_insK h with h | ⟨h, _⟩ | h
 ·exact .inl h
 ·exact .inr h
 ·exact .inr h
theorem RisesK.ins {L : List α} (h : RisesK κ L) (x : α) : RisesK κ (insK κ L x) := by
 induction L with
 | nil => exact List.pairwise_singleton _ _
 | cons y r ih =>
  obtain ⟨h1, h2⟩ := List.pairwise_cons.1 h
  unfold insK
  split
  ·rename_i hlt
   refine List.pairwise_cons.2 ⟨fun z hz => ?_, h⟩
   rcases List.mem_cons.1 hz with rfl | hz
   ·exact hlt
   ·have := h1 z hz; omega
  ·split
   ·rename_i heq
    exact List.pairwise_cons.2 ⟨fun z hz => by have := h1 z hz; omega, h2⟩
   ·refine List.pairwise_cons.2 ⟨fun z hz => ?_, ih h2⟩
    rcases mem_insK' hz with rfl | hz
    ·omega
    ·exact h1 z hz
theorem length_insK {L : List α} (h : RisesK κ L) (x : α) : (insK κ L x).length = L.length + if (fndK κ L (κ x)).isSome then 0 else 1 := by
 induction L with
 | nil => rfl
 | cons y r ih =>
  obtain ⟨h1, h2⟩ := List.pairwise_cons.1 h
  unfold insK
  split
  ·rename_i hlt
   have : fndK κ (y :: r) (κ x) = none := fndK_none.2 fun z hz => by
    rcases List.mem_cons.1 hz with rfl | hz
    ·omega
    ·have := h1 z hz; omega
   rw [this]
   rfl
  ·split
   ·rename_i heq
    have : fndK κ (y :: r) (κ x) = some y := by
     unfold fndK
     rw [List.find?_cons]
     simp [heq]
    rw [this]
    rfl
   ·rename_i hne
    have : fndK κ (y :: r) (κ x) = fndK κ r (κ x) := by
     unfold fndK
     rw [List.find?_cons]
     have : ¬ κ y = κ x := fun e => hne e.symm
     simp only [beq_eq_false_iff_ne.2 this]
    rw [this, List.length_cons, ih h2, List.length_cons]
    omega
theorem mem_insK_iff {L : List α} (h : RisesK κ L) {x y : α} : y ∈ insK κ L x ↔ y = x ∨ (y ∈ L ∧ κ y ≠ κ x) := by
 have hf := fndK_ins κ L x (κ y)
 constructor
 ·intro hy
  rw [fndK_of (h.ins x).ids hy] at hf
  by_cases e : κ x = κ y
  ·rw [if_pos e] at hf
   injection hf with hf
   exact .inl hf
  ·rw [if_neg e] at hf
   exact .inr ⟨(fndK_mem hf.symm).1, fun e' => e e'.symm⟩
 ·rintro (rfl | ⟨hy, hne⟩)
  ·rw [if_pos rfl] at hf
   exact (fndK_mem hf).1
  ·rw [if_neg (fun e => hne e.symm), fndK_of h.ids hy] at hf
   exact (fndK_mem hf).1
theorem fndK_filter {L : List α} (h : L.Pairwise fun x y => κ x ≠ κ y) (p : α → Bool) (k : Int) : fndK κ (L.filter p) k = (fndK κ L k).filter p := by
 induction L with
 | nil => rfl
 | cons y r ih =>
  obtain ⟨h1, h2⟩ := List.pairwise_cons.1 h
  have ih' := ih h2
  by_cases e : κ y = k
  ·have hy : fndK κ (y :: r) k = some y := by unfold fndK; simp [List.find?_cons, e]
   rw [hy]
   by_cases hp : p y = true
   ·rw [List.filter_cons_of_pos hp]
    unfold fndK
    simp [List.find?_cons, e, hp, Option.filter_some]
   ·rw [List.filter_cons_of_neg hp, ih']
    have : fndK κ r k = none := fndK_none.2 fun z hz => by have := h1 z hz; omega
    rw [this]
    simp [hp, Option.filter_some]
  ·have hy : fndK κ (y :: r) k = fndK κ r k := by unfold fndK; simp [List.find?_cons, e]
   rw [hy, ← ih']
   by_cases hp : p y = true
   ·rw [List.filter_cons_of_pos hp]
    unfold fndK
    simp [List.find?_cons, e]
   ·rw [List.filter_cons_of_neg hp]
theorem delK_filter {L : List α} (h : RisesK κ L) {x : α} (hx : x ∈ L) : (L.filter fun y => decide (κ y ≠ κ x)).length + 1 = L.length := by
 induction L with
 | nil => simp at hx
 | cons y r ih =>
  obtain ⟨h1, h2⟩ := List.pairwise_cons.1 h
  rcases List.mem_cons.1 hx with rfl | hx
  ·rw [List.filter_cons_of_neg (by simp), List.filter_eq_self.2 (fun z hz => by have := h1 z hz; simp; omega)]
   rfl
  ·have := h1 x hx
   rw [List.filter_cons_of_pos (by simp; omega), List.length_cons, List.length_cons, ih h2 hx]
theorem eq_of_idK {L : List α} (h : RisesK κ L) {x y : α} (hx : x ∈ L) (hy : y ∈ L) (e : κ x = κ y) : x = y := by
 have h1 := fndK_of h.ids hx
 rw [e, fndK_of h.ids hy] at h1
 injection h1 with h1
 exact h1.symm
theorem RisesK.sub {L M : List α} (h : RisesK κ L) (hs : M.Sublist L) : RisesK κ M := List.Pairwise.sublist hs h
theorem insK_map {κ' : β → Int} (f : α → β) (hf : ∀ x, κ' (f x) = κ x) (L : List α) (x : α) : (insK κ L x).map f = insK κ' (L.map f) (f x) := by
 induction L with
 | nil => rfl
 | cons y r ih =>
  unfold insK
  rw [List.map_cons]
  dsimp only
  rw [hf, hf]
  by_cases h1 : κ x < κ y
  ·rw [if_pos h1, if_pos h1]
   rfl
  ·rw [if_neg h1, if_neg h1]
   by_cases h2 : κ x = κ y
   ·rw [if_pos h2, if_pos h2]
    rfl
   ·rw [if_neg h2, if_neg h2, List.map_cons, ih]
theorem fndK_map {κ' : β → Int} (f : α → β) (hf : ∀ x, κ' (f x) = κ x) (L : List α) (k : Int) : fndK κ' (L.map f) k = (fndK κ L k).map f := by
 unfold fndK
 rw [List.find?_map]
 congr 1
 congr 1
 funext x
 simp [hf]
theorem risesK_map {κ' : β → Int} (f : α → β) (hf : ∀ x, κ' (f x) = κ x) {L : List α} : RisesK κ' (L.map f) ↔ RisesK κ L := by
 unfold RisesK
 rw [List.pairwise_map]
 simp only [hf]
theorem risesK_ext : ∀ {L M : List α}, RisesK κ L → RisesK κ M → (∀ x, x ∈ L ↔ x ∈ M) → L = M
 | [], [], _, _, _ => rfl
 | [], y :: s, _, _, h => by have := (h y).2 (by simp); simp at this
 | x :: r, [], _, _, h => by have := (h x).1 (by simp); simp at this
 | x :: r, y :: s, hL, hM, h => by
  obtain ⟨h1, h2⟩ := List.pairwise_cons.1 hL
  obtain ⟨h3, h4⟩ := List.pairwise_cons.1 hM
  have e : x = y := by
   rcases List.mem_cons.1 ((h x).1 (by simp)) with e | e
   ·exact e
   ·rcases List.mem_cons.1 ((h y).2 (by simp)) with e' | e'
    ·exact e'.symm
    ·have := h1 y e'
     have := h3 x e
     omega
  subst e
  congr 1
  refine risesK_ext h2 h4 fun z => ?_
  constructor
  ·intro hz
   rcases List.mem_cons.1 ((h z).1 (List.mem_cons_of_mem _ hz)) with e | e
   ·subst e; have := h1 z hz; omega
   ·exact e
  ·intro hz
   rcases List.mem_cons.1 ((h z).2 (List.mem_cons_of_mem _ hz)) with e | e
   ·subst e; have := h3 z hz; omega
   ·exact e
end
end Go.Proofs.YtionbmlicmibgaaGreatDoor
namespace Go.Proofs.YtionbmlicmibgaaGreatDoor
set_option linter.unusedVariables false
set_option linter.unusedSimpArgs false
abbrev Pl := Int × List Sp
def kP (y : Pl) : Int := y.1
noncomputable def put1 (S : List Pl) (x : Sp) : List Pl × Cn := match fndK kP S x.t with
 | some y => (insK kP S (x.t, (putP y.2 cn0 x).1), (putP y.2 cn0 x).2)
 | none => if 32 ≤ S.length then (S, ⟨0, 0, 0, 0, 1⟩) else (insK kP S (x.t, (putP [] cn0 x).1), (putP [] cn0 x).2)
noncomputable def puts : List Pl → List Sp → List Pl × Cn
 | S, [] => (S, cn0)
 | S, x :: r => ((puts (put1 S x).1 r).1, (put1 S x).2.plus (puts (put1 S x).1 r).2)
theorem puts_snoc : ∀ (l : List Sp) (S : List Pl) (x : Sp), puts S (l ++ [x]) = ((put1 (puts S l).1 x).1, (puts S l).2.plus (put1 (puts S l).1 x).2)
 | [], S, x => by
  show ((puts (put1 S x).1 []).1, (put1 S x).2.plus (puts (put1 S x).1 []).2) = _
  simp only [puts, Cn.plus0]
  rw [Cn.zero_plus]
 | y :: r, S, x => by
  show ((puts (put1 S y).1 (r ++ [x])).1, (put1 S y).2.plus (puts (put1 S y).1 (r ++ [x])).2) = _
  rw [puts_snoc r]
  simp only [puts]
  rw [Cn.plus_assoc]
theorem plus_sum (a b : Cn) : (a.plus b).sum = a.sum + b.sum := by unfold Cn.plus Cn.sum; dsimp only; omega
theorem put1_sum (S : List Pl) (x : Sp) : (put1 S x).2.sum = 1 := by
 unfold put1
 cases fndK kP S x.t with
 | none =>
  dsimp only
  split
  ·rfl
  ·dsimp only
   rw [putP_sum]
   rfl
 | some y =>
  dsimp only
  rw [putP_sum]
  rfl
theorem puts_sum : ∀ (l : List Sp) (S : List Pl), (puts S l).2.sum = l.length
 | [], S => rfl
 | x :: r, S => by
  show ((put1 S x).2.plus (puts (put1 S x).1 r).2).sum = _
  rw [plus_sum, put1_sum, puts_sum r, List.length_cons]
  omega
structure SoOk (S : List Pl) : Prop where
 rises : RisesK kP S
 ok : ∀ y ∈ S, FoOk y.1 y.2 ∧ y.2 ≠ [] ∧ 1 ≤ y.1 ∧ y.1 ≤ 1099511627776
 len : S.length ≤ 32
theorem SoOk.nil : SoOk [] := ⟨List.Pairwise.nil, by simp, by simp⟩
theorem putP_nil (x : Sp) : putP [] cn0 x = ([x], ⟨1, 0, 0, 0, 0⟩) := by
 have h1 : fnd [] x.i = none := rfl
 have h2 : ring [] x.i x.p = false := ring_out rfl
 unfold putP
 rw [h1]
 dsimp only
 rw [if_neg (by simp), h2]
 rfl
theorem putP_ne {L : List Sp} (h : L ≠ []) (c : Cn) (x : Sp) : (putP L c x).1 ≠ [] := by
 rcases putP_same (L := L) (c := c) (x := x) with e | ⟨_, _, _, e⟩
 ·rw [e]; exact h
 ·rw [e]; simp
theorem put1_ok {S : List Pl} (h : SoOk S) {x : Sp} (hx : x.ok = true) : SoOk (put1 S x).1 := by
 have hx' := (Sp.ok_iff x).1 hx
 unfold put1
 cases hf : fndK kP S x.t with
 | none =>
  dsimp only
  split
  ·exact h
  ·rename_i hl
   rw [putP_nil]
   have hlen := length_insK h.rises ((x.t, [x]) : Pl)
   rw [show kP ((x.t, [x]) : Pl) = x.t from rfl, hf] at hlen
   refine ⟨h.rises.ins _, fun y hy => ?_, by rw [hlen]; simp; omega⟩
   rcases mem_insK' hy with rfl | hy
   ·have := putP_ok (foOk_nil x.t) (c := cn0) hx hx'.ne rfl
    rw [putP_nil] at this
    exact ⟨this, by simp, hx'.t1, hx'.t2⟩
   ·exact h.ok y hy
 | some y =>
  dsimp only
  obtain ⟨hy, hk⟩ := fndK_mem hf
  have hyo := h.ok y hy
  have hlen := length_insK h.rises ((x.t, (putP y.2 cn0 x).1) : Pl)
  rw [show kP ((x.t, (putP y.2 cn0 x).1) : Pl) = x.t from rfl, hf] at hlen
  refine ⟨h.rises.ins _, fun z hz => ?_, by rw [hlen]; simpa using h.len⟩
  rcases mem_insK' hz with rfl | hz
  ·have hk' : y.1 = x.t := hk
   refine ⟨?_, putP_ne hyo.2.1 _ _, by show 1 ≤ x.t; exact hx'.t1, hx'.t2⟩
   have := hyo.1
   rw [hk'] at this
   exact putP_ok this hx hx'.ne rfl
  ·exact h.ok z hz
noncomputable def ingS (S : List Pl) (l : List Sp) : List Pl := if l.all Sp.ok = true then (puts S l).1 else S
noncomputable def ingC (S : List Pl) (l : List Sp) : Cn := if l.all Sp.ok = true then (puts S l).2 else cn0
def ingE (l : List Sp) : Int := if l.all Sp.ok = true then 0 else 30
def retS (S : List Pl) (f : Int) : List Pl := S.filter fun y => decide (f ≤ endP y.2)
theorem retS_ok {S : List Pl} (h : SoOk S) (f : Int) : SoOk (retS S f) := ⟨h.rises.sub List.filter_sublist, fun y hy => h.ok y (List.mem_filter.1 hy).1, Nat.le_trans (List.length_filter_le _ _) h.len⟩
def bytesS (y : Pl) : List UInt8 := digits (encL (sortS y.2)).length ++ encL (sortS y.2)
def imgS (S : List Pl) : List UInt8 := digits S.length ++ S.flatMap bytesS
end Go.Proofs.YtionbmlicmibgaaGreatDoor
namespace Go.Proofs.YtionbmlicmibgaaGreatDoor
set_option linter.unusedVariables false
set_option linter.unusedSimpArgs false
open Go.RowKit
structure Tr where
 t : Int
 g : Nat
 b : Nat
 L : List Sp
def kR (x : Tr) : Int := x.t
def Tr.pl (x : Tr) : Pl := (x.t, x.L)
def Tr.v (x : Tr) : Value := .pointer (some ⟨x.g, 0, none⟩)
theorem kR_pl (x : Tr) : kP x.pl = kR x := rfl
def heldP : Value → Option (DataW Value × List MemPlace)
 | .pointer a => some (.held (.pointer a), [])
 | _ => none
theorem heldP_inv {v u : Value} {ps : List MemPlace} (h : heldP v = some (.held u, ps)) : v = u := by
 cases v <;> simp [heldP] at h
 exact h.1
theorem heldP_ptr {v : Value} {y : DataW Value × List MemPlace} (h : heldP v = some y) : (∃ a, v = .pointer a) ∧ y.1 = .held v := by
 cases v <;> simp [heldP] at h
 subst h
 exact ⟨⟨_, rfl⟩, rfl⟩
theorem zeroTr (w : World) : (zeroValue 195).run Tryz.prog w = .ok (.pointer none) w := by kernel_rfl
def ptrV : Option Tr → Value
 | some x => x.v
 | none => .pointer none
structure RdR (D : DataW Value) (R : List Tr) : Prop where
 size : Maps.size D = R.length
 keys : ∀ k, Maps.has D (.int .i64 k) = (fndK kR R k).isSome
 vals : ∀ k x, fndK kR R k = some x → ∀ z, D.atKey (.int .i64 k) z = .held x.v
 rises : RisesK kR R
structure TrIs (w : World) (b : Nat) (R : List Tr) (D : DataW Value) : Prop where
 map : w.ownsMap Tryz.prog 3 heldP b R.length D
 rd : RdR D R
theorem TrIs.lt {w : World} {b : Nat} {R : List Tr} {D : DataW Value} (h : TrIs w b R D) : b < w.heap.size := h.map.lt
theorem TrIs.chg {w w' : World} {S : Nat → Prop} {b : Nat} {R : List Tr} {D : DataW Value} (h : TrIs w b R D) (hc : Chg w w' S) (hn : ¬ S b) : TrIs w' b R D := by
 have hlt := h.map.lt
 obtain ⟨es, clock, h1, rest⟩ := h.map
 exact ⟨⟨es, clock, (hc.block b hlt hn).trans h1, rest⟩, h.rd⟩
theorem TrIs.below {w w' : World} {b : Nat} {R : List Tr} {D : DataW Value} (h : TrIs w b R D) (hb : Below w.heap.size w w') : TrIs w' b R D := h.chg (Chg.of_below hb fun _ => False) fun e => e
theorem TrIs.drewN {w : World} {b : Nat} {R : List Tr} {D : DataW Value} (h : TrIs w b R D) (q : Nat) : TrIs (w.drewN q) b R D := ⟨h.map, h.rd⟩
theorem TrIs.grown {w w' : World} {b : Nat} {R : List Tr} {D : DataW Value} {row : Option Nat} (h : TrIs w b R D) (hg : w.grownBy w' row) (hne : row ≠ some b) : TrIs w' b R D :=
 ⟨h.map.kept hg fun e => hne e.symm, h.rd⟩
theorem TrIs.look {w : World} {b : Nat} {R : List Tr} {D : DataW Value} (h : TrIs w b R D) {k : Int} (hk : (Lit.int .i64 k).wf = true) (q : Nat) :
  (Instr.lookup 168 (.map (some b)) (.int .i64 k) false).run Tryz.prog (w.drewN q) = .ok (ptrV (fndK kR R k)) (w.drewN q) := by
 have hmap : (w.drewN q).ownsMap Tryz.prog 3 heldP b R.length D := h.map
 obtain ⟨v2, ps2, hrun2, hv2⟩ := hmap.lookup intK Tryz.underlying168 (zeroTr (w.drewN q)) (zd := .held (.pointer none)) (zp := []) rfl (keyI hk)
 cases hf : fndK kR R k with
 | none =>
  have hh : Maps.has D (.int .i64 k) = false := by rw [h.rd.keys, hf]; rfl
  rw [Maps.atKey_of_not_has hh] at hv2
  obtain rfl := heldP_inv hv2
  exact hrun2
 | some x =>
  rw [h.rd.vals k x hf] at hv2
  obtain rfl := heldP_inv hv2
  exact hrun2
set_option maxRecDepth 20000 in
theorem TrIs.store {w : World} {b : Nat} {R : List Tr} {D : DataW Value} (h : TrIs w b R D) {x : Tr} (hk : (Lit.int .i64 x.t).wf = true) (hL : R.length < maxLen) :
  ∃ w' D', (Instr.mapUpdate 168 (.map (some b)) (.int .i64 x.t) (.pointer (some ⟨x.g, 0, none⟩))).run Tryz.prog w = .ok () w' ∧ w.grownBy w' (some b) ∧ TrIs w' b (insK kR R x) D' := by
 obtain ⟨w', hrun, hm', hg⟩ := h.map.update intK Tryz.underlying168 hL (keyI hk) (d := .held x.v) (ps := []) (val := x.v) rfl
 have htidy := h.map.tidy intK
 have hsz : Maps.size (D.put (.int .i64 x.t) (.held x.v)) = (insK kR R x).length := by
  rw [Maps.size_put htidy, h.rd.keys, length_insK h.rd.rises, h.rd.size]
  show (if (fndK kR R x.t).isSome = true then R.length else R.length + 1) = R.length + if (fndK kR R x.t).isSome = true then 0 else 1
  split <;> rfl
 refine ⟨w', _, hrun, hg, ⟨by rw [← hsz]; exact bmap_tight hm', ⟨hsz, fun k => ?_, fun k y hy => ?_, h.rd.rises.ins x⟩⟩⟩
 ·rw [fndK_ins]
  by_cases e : x.t = k
  ·subst e
   rw [if_pos (show kR x = x.t from rfl), Maps.has_put_same h.map.isMap (isKeyI _)]
   rfl
  ·rw [if_neg (show ¬ kR x = k from e), Maps.has_put_other (fun h => e (by injection h with _ h; exact h.symm)), h.rd.keys]
 ·rw [fndK_ins] at hy
  by_cases e : x.t = k
  ·subst e
   rw [if_pos (show kR x = x.t from rfl)] at hy
   simp at hy
   subst hy
   intro z
   rw [Maps.atKey_put_same h.map.isMap (isKeyI _)]
  ·rw [if_neg (show ¬ kR x = k from e)] at hy
   intro z
   rw [Maps.atKey_put_other (fun h => e (by injection h with _ h; exact h.symm))]
   exact h.rd.vals k y hy z
theorem tr_new (w : World) : TrIs (w.alloc (.map #[] 0)) w.heap.size [] (.map []) :=
 ⟨World.ownsMap_made w _ _ _, ⟨rfl, fun k => rfl, fun k x h => by simp [fndK] at h, List.Pairwise.nil⟩⟩
def tgR (x : Tr) : Int × Nat := (x.t, x.g)
def kT (x : Int × Nat) : Int := x.1
theorem kR_tg (x : Tr) : kT (tgR x) = kR x := rfl
theorem insK_self {α : Type} {κ : α → Int} : ∀ {L : List α}, RisesK κ L → ∀ {x : α}, x ∈ L → insK κ L x = L
 | [], _, x, hx => by simp at hx
 | y :: r, h, x, hx => by
  obtain ⟨h1, h2⟩ := List.pairwise_cons.1 h
  unfold insK
  rcases List.mem_cons.1 hx with rfl | hx
  ·rw [if_neg (by omega), if_pos rfl]
  ·have := h1 x hx
   rw [if_neg (by omega), if_neg (by omega), insK_self h2 hx]
theorem RdR.same {D : DataW Value} {R R' : List Tr} (h : RdR D R) (he : R.map tgR = R'.map tgR) : RdR D R' := by
 have hk : ∀ (R : List Tr) k, fndK kT (R.map tgR) k = (fndK kR R k).map tgR := fun R k => fndK_map tgR kR_tg R k
 have hR := h.rises
 rw [← risesK_map tgR kR_tg, he, risesK_map tgR kR_tg] at hR
 refine ⟨by rw [h.size]; simpa using congrArg List.length he, fun k => ?_, fun k x hx => ?_, hR⟩
 ·rw [h.keys]
  have h1 := hk R k
  rw [he, hk R' k] at h1
  have h2 := congrArg Option.isSome h1
  simpa using h2.symm
 ·have h1 := hk R k
  rw [he, hk R' k, hx] at h1
  cases hf : fndK kR R k with
  | none => rw [hf] at h1; simp at h1
  | some y =>
   rw [hf] at h1
   simp at h1
   have h2 := h.vals k y hf
   have h3 : x.g = y.g := congrArg Prod.snd h1
   unfold Tr.v at h2 ⊢
   rw [h3]
   exact h2
theorem TrIs.same {w : World} {b : Nat} {R R' : List Tr} {D : DataW Value} (h : TrIs w b R D) (he : R.map tgR = R'.map tgR) : TrIs w b R' D :=
 ⟨by have := congrArg List.length he; simp at this; rw [← this]; exact h.map, h.rd.same he⟩
theorem tg_ins {R : List Tr} (hr : RisesK kR R) {x : Tr} (hx : x ∈ R) (L' : List Sp) : R.map tgR = (insK kR R { x with L := L' }).map tgR := by
 rw [insK_map tgR kR_tg]
 exact (insK_self ((risesK_map tgR kR_tg).2 hr) (List.mem_map.2 ⟨x, hx, rfl⟩)).symm
def SoS (gs bm : Nat) (R : List Tr) (k : Nat) : Prop := k = gs ∨ k = bm ∨ ∃ x ∈ R, k = x.g ∨ k = x.b
def Tr.Apart (x y : Tr) : Prop := x.g ≠ y.g ∧ x.b ≠ y.b ∧ x.g ≠ y.b ∧ x.b ≠ y.g
structure SoIs (w : World) (gs bm : Nat) (R : List Tr) : Prop where
 c0 : w.cell? ⟨gs, 0, none⟩ = some (.map (some bm))
 ne : gs ≠ bm
 map : ∃ D, TrIs w bm R D
 fo : ∀ x ∈ R, FoIs w x.g x.b x.t x.L
 off : ∀ x ∈ R, x.g ≠ gs ∧ x.g ≠ bm ∧ x.b ≠ gs ∧ x.b ≠ bm
 ap : ∀ x ∈ R, ∀ y ∈ R, x.t ≠ y.t → x.Apart y
 ok : SoOk (R.map Tr.pl)
section
variable {w w' : World} {gs bm : Nat} {R R' : List Tr}
theorem SoIs.rises (h : SoIs w gs bm R) : RisesK kR R := (risesK_map Tr.pl kR_pl).1 h.ok.rises
theorem SoIs.len (h : SoIs w gs bm R) : R.length ≤ 32 := by have := h.ok.len; simpa using this
theorem FoIs.lt {g b : Nat} {tr : Int} {L : List Sp} (h : FoIs w g b tr L) : g < w.heap.size ∧ b < w.heap.size := ⟨lt_of_cell h.c0, by obtain ⟨D, hD⟩ := h.bag; exact hD.map.lt⟩
theorem SoIs.lt (h : SoIs w gs bm R) : ∀ k, SoS gs bm R k → k < w.heap.size := by
 rintro k (rfl | rfl | ⟨x, hx, rfl | rfl⟩)
 ·exact lt_of_cell h.c0
 ·obtain ⟨D, hD⟩ := h.map; exact hD.lt
 ·exact (h.fo x hx).lt.1
 ·exact (h.fo x hx).lt.2
theorem SoIs.chg {S : Nat → Prop} (h : SoIs w gs bm R) (hc : Chg w w' S) (hS : ∀ k, SoS gs bm R k → ¬ S k) : SoIs w' gs bm R :=
 ⟨hc.cell h.c0 (hS _ (.inl rfl)), h.ne, by obtain ⟨D, hD⟩ := h.map; exact ⟨D, hD.chg hc (hS _ (.inr (.inl rfl)))⟩, fun x hx => (h.fo x hx).chg hc (hS _ (.inr (.inr ⟨x, hx, .inl rfl⟩))) (hS _ (.inr (.inr ⟨x, hx, .inr rfl⟩))), h.off, h.ap, h.ok⟩
theorem SoIs.below (h : SoIs w gs bm R) (hb : Below w.heap.size w w') : SoIs w' gs bm R := h.chg (Chg.of_below hb fun _ => False) fun _ _ e => e
theorem SoIs.drewN (h : SoIs w gs bm R) (q : Nat) : SoIs (w.drewN q) gs bm R := h.below (bdrew w q)
theorem soS_nil {k : Nat} : SoS gs bm [] k ↔ k = gs ∨ k = bm := by simp [SoS]
theorem SoIs.with_ (h : SoIs w gs bm R) {x : Tr} {L' : List Sp} (hx : x ∈ R) (hf : FoIs w' x.g x.b x.t L') (hc : Chg w w' fun k => k = x.b) (ho : SoOk (insK kP (R.map Tr.pl) (x.t, L'))) : SoIs w' gs bm (insK kR R { x with L := L' }) := by
 have hr := h.rises
 have hm : ∃ D, TrIs w' bm (insK kR R { x with L := L' }) D := by
  obtain ⟨D, hD⟩ := h.map
  exact ⟨D, (hD.chg hc (fun e => (h.off x hx).2.2.2 e.symm)).same (tg_ins hr hx L')⟩
 have hmem : ∀ y, y ∈ insK kR R { x with L := L' } → y = { x with L := L' } ∨ (y ∈ R ∧ y.t ≠ x.t) := fun y hy => (mem_insK_iff hr).1 hy
 refine ⟨hc.cell h.c0 (fun e => (h.off x hx).2.2.1 e.symm), h.ne, hm, fun y hy => ?_, fun y hy => ?_, fun y hy z hz hne => ?_, ?_⟩
 ·rcases hmem y hy with rfl | ⟨hy, hne⟩
  ·exact hf
  ·have := h.ap y hy x hx hne
   exact (h.fo y hy).chg hc this.2.2.1 this.2.1
 ·rcases hmem y hy with rfl | ⟨hy, hne⟩
  ·exact h.off x hx
  ·exact h.off y hy
 ·rcases hmem y hy with rfl | ⟨hy, hny⟩ <;> rcases hmem z hz with rfl | ⟨hz, hnz⟩
  ·exact absurd rfl hne
  ·exact h.ap x hx z hz fun e => hnz e.symm
  ·exact h.ap y hy x hx hny
  ·exact h.ap y hy z hz hne
 ·rw [insK_map Tr.pl kR_pl]
  exact ho
theorem SoIs.new_ (h : SoIs w gs bm R) {t : Int} {g b g0 : Nat} {L L0 : List Sp} {D : DataW Value} (hn : fndK kR R t = none) (hf : FoIs w' g b t L) (hg : w.heap.size ≤ g) (hb : w.heap.size ≤ b) (hc : Chg w w' fun k => k = bm) (hm : TrIs w' bm (insK kR R ⟨t, g, b, L0⟩) D) (ho : SoOk (insK kP (R.map Tr.pl) (t, L))) : SoIs w' gs bm (insK kR R ⟨t, g, b, L⟩) := by
 have hr := h.rises
 have hlt := h.lt
 have hlR : ∀ y ∈ R, y.g < w.heap.size ∧ y.b < w.heap.size := fun y hy => (h.fo y hy).lt
 have hgs : gs < w.heap.size := hlt gs (.inl rfl)
 have hbm : bm < w.heap.size := hlt bm (.inr (.inl rfl))
 have hmem : ∀ y, y ∈ insK kR R ⟨t, g, b, L⟩ → y = ⟨t, g, b, L⟩ ∨ (y ∈ R ∧ y.t ≠ t) := fun y hy => (mem_insK_iff hr).1 hy
 refine ⟨hc.cell h.c0 h.ne, h.ne, ⟨D, hm.same ?_⟩, fun y hy => ?_, fun y hy => ?_, fun y hy z hz hne => ?_, ?_⟩
 ·rw [insK_map tgR kR_tg, insK_map tgR kR_tg]
  rfl
 ·rcases hmem y hy with rfl | ⟨hy, hne⟩
  ·exact hf
  ·exact (h.fo y hy).chg hc (h.off y hy).2.1 (h.off y hy).2.2.2
 ·rcases hmem y hy with rfl | ⟨hy, hne⟩
  ·exact ⟨by show g ≠ gs; omega, by show g ≠ bm; omega, by show b ≠ gs; omega, by show b ≠ bm; omega⟩
  ·exact h.off y hy
 ·rcases hmem y hy with rfl | ⟨hy, hny⟩ <;> rcases hmem z hz with rfl | ⟨hz, hnz⟩
  ·exact absurd rfl hne
  ·have := hlR z hz
   exact ⟨by show g ≠ z.g; omega, by show b ≠ z.b; omega, by show g ≠ z.b; omega, by show b ≠ z.g; omega⟩
  ·have := hlR y hy
   exact ⟨by show y.g ≠ g; omega, by show y.b ≠ b; omega, by show y.g ≠ b; omega, by show y.b ≠ g; omega⟩
  ·exact h.ap y hy z hz hne
 ·rw [insK_map Tr.pl kR_pl]
  exact ho
theorem soS_ins {x : Tr} (hr : RisesK kR R) {k : Nat} (hk : SoS gs bm (insK kR R x) k) : SoS gs bm R k ∨ k = x.g ∨ k = x.b := by
 rcases hk with h | h | ⟨y, hy, h⟩
 ·exact .inl (.inl h)
 ·exact .inl (.inr (.inl h))
 ·rcases (mem_insK_iff hr).1 hy with rfl | ⟨hy, _⟩
  ·exact .inr h
  ·exact .inl (.inr (.inr ⟨y, hy, h⟩))
def SoM (bm : Nat) (R : List Tr) (k : Nat) : Prop := k = bm ∨ ∃ x ∈ R, k = x.b
theorem SoM.sub {k : Nat} (h : SoM bm R k) : SoS gs bm R k := by
 rcases h with h | ⟨x, hx, h⟩
 ·exact .inr (.inl h)
 ·exact .inr (.inr ⟨x, hx, .inr h⟩)
theorem TrIs.ne_cell {b g i : Nat} {D : DataW Value} {u : Value} (h : TrIs w b R D) (hc : w.cell? ⟨g, i, none⟩ = some u) : g ≠ b := by
 rintro rfl
 obtain ⟨es, clock, hb, _⟩ := h.map
 unfold World.cell? at hc
 simp only [hb] at hc
 cases hc
theorem SoIs.ne_cell (h : SoIs w gs bm R) {g i : Nat} {u : Value} (hc : w.cell? ⟨g, i, none⟩ = some u) : ¬ SoM bm R g := by
 rintro (rfl | ⟨x, hx, rfl⟩)
 ·obtain ⟨D, hD⟩ := h.map
  exact hD.ne_cell hc rfl
 ·obtain ⟨D, hD⟩ := (h.fo x hx).bag
  exact hD.ne_cell hc rfl
theorem SoIs.keep (h : SoIs w gs bm R) (hc : Chg w w' (SoM bm R)) {g i : Nat} {u : Value} (hu : w.cell? ⟨g, i, none⟩ = some u) : w'.cell? ⟨g, i, none⟩ = some u := hc.cell hu (h.ne_cell hu)
structure SoTo (w w' : World) (gs bm : Nat) (R R' : List Tr) (S' : List Pl) : Prop where
 is : SoIs w' gs bm R'
 pl : R'.map Tr.pl = S'
 chg : Chg w w' (SoM bm R)
 new : ∀ k, SoS gs bm R' k → SoS gs bm R k ∨ w.heap.size ≤ k
theorem SoM.new {k : Nat} (hn : ∀ k, SoS gs bm R' k → SoS gs bm R k ∨ w.heap.size ≤ k) (h : SoIs w gs bm R) (h' : SoIs w' gs bm R') (hc : Chg w w' (SoM bm R)) (hk : SoM bm R' k) : SoM bm R k ∨ w.heap.size ≤ k := by
 rcases hn k (SoM.sub hk) with h1 | h1
 ·refine .inl ?_
  rcases h1 with rfl | rfl | ⟨x, hx, rfl | rfl⟩
  ·exact absurd hk (h'.ne_cell (h.keep hc h.c0))
  ·exact .inl rfl
  ·exact absurd hk (h'.ne_cell (h.keep hc (h.fo x hx).c0))
  ·exact .inr ⟨x, hx, rfl⟩
 ·exact .inr h1
theorem SoTo.trans {w w1 w2 : World} {R1 R2 : List Tr} {S1 S2 : List Pl} (h0 : SoIs w gs bm R) (h : SoTo w w1 gs bm R R1 S1) (h' : SoTo w1 w2 gs bm R1 R2 S2) : SoTo w w2 gs bm R R2 S2 :=
 ⟨h'.is, h'.pl, h.chg.trans h'.chg fun k hk => SoM.new h.new h0 h.is h.chg hk, fun k hk => by
  rcases h'.new k hk with h1 | h1
  ·exact h.new k h1
  ·exact .inr (Nat.le_trans h.chg.size h1)⟩
theorem SoTo.below {w2 : World} {S' : List Pl} (h : SoTo w w' gs bm R R' S') (hb : Below w'.heap.size w' w2) : SoTo w w2 gs bm R R' S' :=
 ⟨h.is.below hb, h.pl, h.chg.belowed hb, h.new⟩
theorem SoTo.of_below (h : SoIs w gs bm R) (hb : Below w.heap.size w w') : SoTo w w' gs bm R R (R.map Tr.pl) := ⟨h.below hb, rfl, Chg.of_below hb _, fun k hk => .inl hk⟩
end
end Go.Proofs.YtionbmlicmibgaaGreatDoor
namespace Go.Proofs.YtionbmlicmibgaaGreatDoor
set_option linter.unusedVariables false
set_option linter.unusedSimpArgs false
open Go.RowKit
theorem run_makeTr (w : World) : (Instr.makeMap 168 none).run Tryz.prog w = .ok (.map (some w.heap.size)) (w.alloc (.map #[] 0)) := by
 kernel_rfl
theorem run_some_trs (b : Nat) (w : World) : (binOp .neq 168 (.map (some b)) (.map none)).run Tryz.prog w = .ok (.bool true) w := by
 kernel_rfl
def NewSo (w : World) (S : List Pl) (e : Ending) (w' : World) : Prop := ∃ gs bm R, e = .returned (.pointer (some ⟨gs, 0, none⟩)) ∧ SoIs w' gs bm R ∧ R.map Tr.pl = S ∧ (∀ k, SoS gs bm R k → w.heap.size ≤ k) ∧ Below w.heap.size w w'
set_option maxRecDepth 200000 in
set_option maxHeartbeats 1100000 in
theorem snew_any (w : World) : Calls Tryz.prog 74 #[] w (NewSo w []) := by
 have hmk := fun q => run_makeTr (w.drewN q)
 have hmk0 := run_makeTr w
 go_enter Tryz.func74, Tryz.ntmps74
 go_wp2
 go_ret
 have hs : (w.alloc (.map #[] 0)).heap.size = w.heap.size + 1 := by simp
 have b1 := (Below.refl w.heap.size w).alloc (Nat.le_refl _) (.map #[] 0)
 refine ⟨w.heap.size + 1, w.heap.size, [], rfl, ⟨?_, by omega, ⟨_, (tr_new w).grown (World.grownBy_alloc _ _ none) (by simp)⟩, by simp, by simp, by simp, SoOk.nil⟩, rfl, fun k hk => ?_, b1.alloc b1.size _⟩
 ·rw [← hs]
  exact cell_of_row _ _ 0 _ 170 (0, 0) (heap_alloc_new (w.alloc (.map #[] 0)) _)
 ·rcases soS_nil.1 hk with rfl | rfl <;> omega
set_option maxRecDepth 200000 in
set_option maxHeartbeats 1100000 in
theorem smade_any {w : World} {gs bm : Nat} (c0 : w.cell? ⟨gs, 0, none⟩ = some (.map (some bm))) : Calls Tryz.prog 127 #[.pointer (some ⟨gs, 0, none⟩)] w fun e w' => e = .returned (.bool true) ∧ ∃ q, w' = w.drewN q := by
 have hneq := run_some_trs bm
 go_enter Tryz.func127, Tryz.ntmps127
 go_wp2
 go_ret
 exact ⟨rfl, 0, rfl⟩
end Go.Proofs.YtionbmlicmibgaaGreatDoor
namespace Go.Proofs.YtionbmlicmibgaaGreatDoor
set_option linter.unusedVariables false
set_option linter.unusedSimpArgs false
open Go.RowKit
set_option maxRecDepth 200000 in
set_option maxHeartbeats 1100000 in
theorem sum_any (w : World) (a b : Cn) (ha : a.sum ≤ 1100000) (hb : b.sum ≤ 1100000) : Calls Tryz.prog 197 #[cnV a, cnV b] w fun e w' => e = .returned (cnV (a.plus b)) ∧ Below w.heap.size w w' := by
 obtain ⟨a0, a1, a2, a3, a4⟩ := a
 obtain ⟨b0, b1, b2, b3, b4⟩ := b
 unfold Cn.sum at ha hb
 unfold cnV Cn.plus
 dsimp only at *
 have h0 : (a0 : Int) ≤ 1100000 := by omega
 have h1 : (a1 : Int) ≤ 1100000 := by omega
 have h2 : (a2 : Int) ≤ 1100000 := by omega
 have h3 : (a3 : Int) ≤ 1100000 := by omega
 have h4 : (a4 : Int) ≤ 1100000 := by omega
 have k0 : (b0 : Int) ≤ 1100000 := by omega
 have k1 : (b1 : Int) ≤ 1100000 := by omega
 have k2 : (b2 : Int) ≤ 1100000 := by omega
 have k3 : (b3 : Int) ≤ 1100000 := by omega
 have k4 : (b4 : Int) ≤ 1100000 := by omega
 clear ha hb
 go_enter Tryz.func197, Tryz.ntmps197
 go_wp2
 refine bodyPost_ret (v := .agg #[.int .i64 ((a0 : Int) + b0), .int .i64 ((a1 : Int) + b1), .int .i64 ((a2 : Int) + b2), .int .i64 ((a3 : Int) + b3), .int .i64 ((a4 : Int) + b4)]) (by
  simp [results, Tryz.results197, go_sem]) rfl ⟨by simp only [Int.natCast_add], ?_⟩
 have h1 := (Below.refl w.heap.size w).alloc (Nat.le_refl _) (.cells #[.int .i64 a0, .int .i64 a1, .int .i64 a2, .int .i64 a3, .int .i64 a4] 64)
 have h2 := h1.alloc h1.size (.cells #[.int .i64 b0, .int .i64 b1, .int .i64 b2, .int .i64 b3, .int .i64 b4] 64)
 exact h2.alloc h2.size _
end Go.Proofs.YtionbmlicmibgaaGreatDoor
