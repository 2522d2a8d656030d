import Derived.Test.YtionbmlicmibgaaGreatDoorS15
import Derived.Test.YtionbmlicmibgaaGreatDoorX1
import Derived.Test.YtionbmlicmibgaaGreatDoorR1
namespace Go.Proofs.YtionbmlicmibgaaGreatDoor
set_option linter.unusedVariables false
set_option linter.unusedSimpArgs false
structure Cm where
 k : Int
 se : Int
 sq : Int
 a : Int
 sp : List Sp
 vo : List Int
deriving DecidableEq
def btw (lo n hi : Int) : Bool := decide (lo ≤ n) && decide (n ≤ hi)
theorem btw_iff {lo n hi : Int} : btw lo n hi = true ↔ lo ≤ n ∧ n ≤ hi := by unfold btw; simp
def spsOk (l : List Sp) : Bool := btw 1 l.length 8 && l.all Sp.ok
def Cm.may (c : Cm) : Bool :=
 if c.k = 0 then true else if c.k = 1 then true
 else if c.k = 2 then btw 1 c.se 1099511627776 && btw 1 c.sq 1099511627776 && spsOk c.sp
 else if c.k = 3 then btw 0 c.a 1099511627776
 else if c.k = 4 then btw 0 c.a 1099511627777
 else if c.k = 5 then okR c.vo else false
def Cm.own (c : Cm) : Cm :=
 if c.k = 2 then ⟨c.k, c.se, c.sq, 0, c.sp, []⟩
 else if c.k = 3 then ⟨c.k, 0, 0, c.a, [], []⟩
 else if c.k = 4 then ⟨c.k, 0, 0, c.a, [], []⟩
 else if c.k = 5 then ⟨c.k, 0, 0, 0, [], c.vo⟩ else ⟨c.k, 0, 0, 0, [], []⟩
def Cm.like (a b : Cm) : Bool := a.k == b.k && (a.se == b.se && (a.sq == b.sq && (a.a == b.a && (a.sp.length == b.sp.length && a.vo.length == b.vo.length))))
def Cm.ok (c : Cm) : Bool := c.may && c.like c.own
theorem Cm.ok_iff (c : Cm) : c.ok = true ↔
  ((c.k = 0 ∨ c.k = 1) ∧ c = ⟨c.k, 0, 0, 0, [], []⟩) ∨ (c.k = 2 ∧ c = ⟨2, c.se, c.sq, 0, c.sp, []⟩ ∧ btw 1 c.se 1099511627776 = true ∧ btw 1 c.sq 1099511627776 = true ∧ spsOk c.sp = true) ∨
  (c.k = 3 ∧ c = ⟨3, 0, 0, c.a, [], []⟩ ∧ btw 0 c.a 1099511627776 = true) ∨ (c.k = 4 ∧ c = ⟨4, 0, 0, c.a, [], []⟩ ∧ btw 0 c.a 1099511627777 = true) ∨
  (c.k = 5 ∧ c = ⟨5, 0, 0, 0, [], c.vo⟩ ∧ okR c.vo = true) := by
 obtain ⟨k, se, sq, a, sp, vo⟩ := c
 unfold Cm.ok Cm.may Cm.own Cm.like
 dsimp only
 by_cases h0 : k = 0
 ·subst h0
  simp [List.length_eq_zero_iff]
 by_cases h1 : k = 1
 ·subst h1
  simp [List.length_eq_zero_iff]
 by_cases h2 : k = 2
 ·subst h2
  simp [List.length_eq_zero_iff]
  constructor
  ·rintro ⟨⟨⟨a1, a2⟩, a3⟩, a4, a5⟩
   exact ⟨⟨a4, a5⟩, a1, a2, a3⟩
  ·rintro ⟨⟨a4, a5⟩, a1, a2, a3⟩
   exact ⟨⟨⟨a1, a2⟩, a3⟩, a4, a5⟩
 by_cases h3 : k = 3
 ·subst h3
  simp [List.length_eq_zero_iff]
  constructor
  ·rintro ⟨a1, a2, a3, a4, a5⟩
   exact ⟨⟨a2, a3, a4, a5⟩, a1⟩
  ·rintro ⟨⟨a2, a3, a4, a5⟩, a1⟩
   exact ⟨a1, a2, a3, a4, a5⟩
 by_cases h4 : k = 4
 ·subst h4
  simp [List.length_eq_zero_iff]
  constructor
  ·rintro ⟨a1, a2, a3, a4, a5⟩
   exact ⟨⟨a2, a3, a4, a5⟩, a1⟩
  ·rintro ⟨⟨a2, a3, a4, a5⟩, a1⟩
   exact ⟨a1, a2, a3, a4, a5⟩
 by_cases h5 : k = 5
 ·subst h5
  simp [List.length_eq_zero_iff]
  constructor
  ·rintro ⟨a1, a2, a3, a4, a5⟩
   exact ⟨⟨a2, a3, a4, a5⟩, a1⟩
  ·rintro ⟨⟨a2, a3, a4, a5⟩, a1⟩
   exact ⟨a1, a2, a3, a4, a5⟩
 simp [h0, h1, h2, h3, h4, h5]
def nmB (l : List Int) : List UInt8 := l.flatMap fun n => digits n.toNat
def txB (l : List UInt8) : List UInt8 := digits l.length ++ l
def Cm.bytes (c : Cm) : List UInt8 :=
 digits c.k.toNat ++ (if c.k = 2 then nmB [c.se, c.sq] ++ txB (encL c.sp) else if c.k = 3 then nmB [c.a] else if c.k = 4 then nmB [c.a] else if c.k = 5 then nmB [(c.vo.length : Int)] ++ nmB c.vo else [])
theorem nmB_cons (n : Int) (l : List Int) : nmB (n :: l) = digits n.toNat ++ nmB l := rfl
theorem nmB_app (l m : List Int) : nmB (l ++ m) = nmB l ++ nmB m := List.flatMap_append
theorem nmB_take {l : List Int} {k : Nat} {n : Int} (h : l[k]? = some n) : nmB (l.take (k + 1)) = nmB (l.take k) ++ digits n.toNat := by
 rw [List.take_add_one, h, nmB_app]
 show _ ++ nmB [n] = _
 rw [nmB_cons]
 show _ ++ (digits n.toNat ++ []) = _
 rw [List.append_nil]
def rdN (l : List UInt8) : Nat → Nat × Nat → List Int × (Nat × Nat)
 | 0, st => ([], st)
 | k + 1, st => (((nx l st).1 : Int) :: (rdN l k (nx l st).2).1, (rdN l k (nx l st).2).2)
def rdV (l : List UInt8) (st : Nat × Nat) : List Int × (Nat × Nat) := rdN l (min (nx l st).1 7) (nx l st).2
def rdC (l : List UInt8) : Cm :=
 let k : Nat := (nx l (0, 0)).1
 let st := (nx l (0, 0)).2
 if k = 2 then ⟨k, ((nx l st).1 : Nat), ((nx l (nx l st).2).1 : Nat), 0, (getP (tx l (l.length - (nx l (nx l st).2).2.1) (nx l (nx l st).2).2).1).1, []⟩
 else if k = 3 then ⟨k, 0, 0, ((nx l st).1 : Nat), [], []⟩ else if k = 4 then ⟨k, 0, 0, ((nx l st).1 : Nat), [], []⟩
 else if k = 5 then ⟨k, 0, 0, 0, [], (rdV l st).1⟩ else ⟨k, 0, 0, 0, [], []⟩
theorem rdN_at {l : List UInt8} : ∀ (v : List Int) {a : Nat} {r : List UInt8}, (∀ n ∈ v, 0 ≤ n ∧ n < 9223372036854775808) → l.drop a = nmB v ++ r → rdN l v.length (a, 0) = (v, a + (nmB v).length, 0)
 | [], a, r, _, h => by
  show ([], (a, 0)) = _
  simp [nmB]
 | n :: v, a, r, hv, h => by
  have hn := hv n (List.mem_cons_self ..)
  rw [nmB_cons, List.append_assoc] at h
  have h1 := nx_digits (l := l) (a := a) (n := n.toNat) (by omega) h
  rw [List.length_cons, rdN, h1]
  dsimp only
  rw [rdN_at v (fun m hm => hv m (List.mem_cons_of_mem _ hm)) (drop_more h)]
  dsimp only
  rw [nmB_cons, List.length_append, Nat.add_assoc]
  congr 2
  omega
theorem okFrom_len : ∀ {l : List Int} {a : Int}, okFrom a l = true → a ≤ 7 → (l.length : Int) + a ≤ 7
 | [], a, _, ha => by simp; omega
 | x :: r, a, h, ha => by
  unfold okFrom at h
  rw [Bool.and_eq_true, Bool.and_eq_true, decide_eq_true_eq, decide_eq_true_eq] at h
  have := okFrom_len h.2 (by omega)
  rw [List.length_cons]
  omega
theorem okR_len {l : List Int} (h : okR l = true) : l.length ≤ 7 ∧ ∀ n ∈ l, 0 ≤ n ∧ n < 7 := by
 refine ⟨?_, okR_mem h⟩
 unfold okR at h
 rw [Bool.and_eq_true] at h
 have h1 := okFrom_len h.2 (by omega)
 omega
theorem spsOk_ok {l : List Sp} (h : spsOk l = true) : 1 ≤ l.length ∧ l.length ≤ 8 ∧ ∀ x ∈ l, x.ok = true := by
 unfold spsOk at h
 rw [Bool.and_eq_true, btw_iff] at h
 exact ⟨by omega, by omega, List.all_eq_true.1 h.2⟩
theorem spsOk_len {l : List Sp} (h : spsOk l = true) : (encL l).length ≤ 1000 := by
 obtain ⟨_, h2, h3⟩ := spsOk_ok h
 have h4 : ∀ m : List Sp, (∀ x ∈ m, x.ok = true) → ((m.map Sp.bytes).flatten).length ≤ m.length * 100 := by
  intro m
  induction m with
  | nil => simp
  | cons x r ih =>
   intro hm
   have hx := (Sp.ok_iff x).1 (hm x (List.mem_cons_self ..))
   have h5 := ih fun y hy => hm y (List.mem_cons_of_mem _ hy)
   rw [List.map_cons, List.flatten_cons, List.length_append, List.length_cons]
   have h6 : x.bytes.length ≤ 100 := by
    have t := hx.t2; have t' := hx.t1; have i := hx.i2; have i' := hx.i1; have p := hx.p2; have p' := hx.p1; have s := hx.s2; have s' := hx.s1; have e := hx.e2
    have d1 := digits_length x.t.toNat (by omega)
    have d2 := digits_length x.i.toNat (by omega)
    have d3 := digits_length x.p.toNat (by omega)
    have d4 := digits_length x.s.toNat (by omega)
    have d5 := digits_length (x.e - x.s).toNat (by omega)
    have hnl : x.nl.length ≤ 32 := by
     have h7 := hm x (List.mem_cons_self ..)
     simp only [Sp.ok, okName, Bool.and_eq_true, decide_eq_true_eq] at h7
     exact h7.2.1.2
    have d6 := digits_length x.nl.length (by omega)
    unfold Sp.bytes
    simp only [List.length_append]
    omega
   omega
 have h5 := h4 l h3
 have h6 := digits_length l.length (by omega)
 unfold encL
 rw [List.length_append]
 omega
theorem rdC_bytes {c : Cm} (h : c.ok = true) : rdC c.bytes = c := by
 rcases (Cm.ok_iff c).1 h with ⟨h1, h2⟩ | ⟨h1, h2, h3, h4, h5⟩ | ⟨h1, h2, h3⟩ | ⟨h1, h2, h3⟩ | ⟨h1, h2, h3⟩
 ·have hb : c.bytes.drop 0 = digits c.k.toNat ++ [] := by
   rw [h2]
   unfold Cm.bytes
   rcases h1 with h1 | h1 <;> rw [h1] <;> rfl
  have hn := nx_digits (l := c.bytes) (a := 0) (n := c.k.toNat) (by omega) hb
  unfold rdC
  rw [hn]
  dsimp only
  rcases h1 with h1 | h1 <;> rw [h1] at h2 ⊢ <;> rw [h2] <;> rfl
 ·obtain ⟨k, se, sq, a, sp, vo⟩ := c
  simp only [Cm.mk.injEq] at h2
  obtain ⟨rfl, _, _, rfl, _, rfl⟩ := h2
  dsimp only at h3 h4 h5
  rw [btw_iff] at h3 h4
  have hb : (Cm.bytes ⟨2, se, sq, 0, sp, []⟩).drop 0 = digits 2 ++ (digits se.toNat ++ (digits sq.toNat ++ (digits (encL sp).length ++ (encL sp ++ [])))) := by
   unfold Cm.bytes
   simp [nmB, txB]
  generalize Cm.bytes ⟨2, se, sq, 0, sp, []⟩ = l at hb
  have n1 := nx_digits (l := l) (a := 0) (n := 2) (by omega) hb
  have hb1 := drop_more hb
  have n2 := nx_digits (l := l) (n := se.toNat) (by omega) hb1
  have hb2 := drop_more hb1
  have n3 := nx_digits (l := l) (n := sq.toNat) (by omega) hb2
  have hb3 := drop_more hb2
  have hl := congrArg List.length hb3
  rw [List.length_drop, List.length_append, List.length_append] at hl
  have hp := digits_pos (encL sp).length
  have he := spsOk_len h5
  have ht := tx_digitsL (l := l) (most := l.length - (0 + (digits 2).length + (digits se.toNat).length + (digits sq.toNat).length)) (x := encL sp) (by omega) (by omega) (by omega) hb3
  obtain ⟨_, q2, q3⟩ := spsOk_ok h5
  have hg := getP_enc sp (by omega) q3
  unfold rdC
  rw [n1]
  dsimp only
  rw [n2]
  dsimp only
  rw [n3]
  dsimp only
  rw [ht]
  dsimp only
  rw [hg]
  simp
  omega
 ·obtain ⟨k, se, sq, a, sp, vo⟩ := c
  simp only [Cm.mk.injEq] at h2
  obtain ⟨rfl, rfl, rfl, _, rfl, rfl⟩ := h2
  dsimp only at h3
  rw [btw_iff] at h3
  have hb : (Cm.bytes ⟨3, 0, 0, a, [], []⟩).drop 0 = digits 3 ++ (digits a.toNat ++ []) := by
   unfold Cm.bytes
   simp [nmB]
  generalize Cm.bytes ⟨3, 0, 0, a, [], []⟩ = l at hb
  have n1 := nx_digits (l := l) (a := 0) (n := 3) (by omega) hb
  have n2 := nx_digits (l := l) (n := a.toNat) (by omega) (drop_more hb)
  unfold rdC
  rw [n1]
  dsimp only
  rw [n2]
  simp
  omega
 ·obtain ⟨k, se, sq, a, sp, vo⟩ := c
  simp only [Cm.mk.injEq] at h2
  obtain ⟨rfl, rfl, rfl, _, rfl, rfl⟩ := h2
  dsimp only at h3
  rw [btw_iff] at h3
  have hb : (Cm.bytes ⟨4, 0, 0, a, [], []⟩).drop 0 = digits 4 ++ (digits a.toNat ++ []) := by
   unfold Cm.bytes
   simp [nmB]
  generalize Cm.bytes ⟨4, 0, 0, a, [], []⟩ = l at hb
  have n1 := nx_digits (l := l) (a := 0) (n := 4) (by omega) hb
  have n2 := nx_digits (l := l) (n := a.toNat) (by omega) (drop_more hb)
  unfold rdC
  rw [n1]
  dsimp only
  rw [n2]
  simp
  omega
 ·obtain ⟨k, se, sq, a, sp, vo⟩ := c
  simp only [Cm.mk.injEq] at h2
  obtain ⟨rfl, rfl, rfl, rfl, rfl, _⟩ := h2
  dsimp only at h3
  obtain ⟨q1, q2⟩ := okR_len h3
  have hb : (Cm.bytes ⟨5, 0, 0, 0, [], vo⟩).drop 0 = digits 5 ++ (digits vo.length ++ (nmB vo ++ [])) := by
   unfold Cm.bytes
   simp [nmB]
  generalize Cm.bytes ⟨5, 0, 0, 0, [], vo⟩ = l at hb
  have n1 := nx_digits (l := l) (a := 0) (n := 5) (by omega) hb
  have n2 := nx_digits (l := l) (n := vo.length) (by omega) (drop_more hb)
  have n3 := rdN_at (l := l) vo (fun n hn => by have := q2 n hn; omega) (drop_more (drop_more hb))
  unfold rdC rdV
  rw [n1]
  dsimp only
  rw [n2]
  dsimp only
  rw [Nat.min_eq_left (by omega), n3]
  simp
def getC (l : List UInt8) : Option Cm := if (rdC l).ok = true ∧ (rdC l).bytes = l then some (rdC l) else none
theorem getC_bytes {c : Cm} (h : c.ok = true) : getC c.bytes = some c := by
 unfold getC
 rw [rdC_bytes h, if_pos ⟨h, rfl⟩]
theorem getC_some {l : List UInt8} {c : Cm} (h : getC l = some c) : c.ok = true ∧ c.bytes = l ∧ rdC l = c := by
 unfold getC at h
 split at h
 ·rename_i h1
  injection h with h
  subst h
  exact ⟨h1.1, h1.2, rfl⟩
 ·cases h
end Go.Proofs.YtionbmlicmibgaaGreatDoor
