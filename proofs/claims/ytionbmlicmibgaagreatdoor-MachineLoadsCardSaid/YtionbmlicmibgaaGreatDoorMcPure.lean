import Derived.Test.YtionbmlicmibgaaGreatDoorS15
import Derived.Test.YtionbmlicmibgaaGreatDoorX1
import Derived.Test.YtionbmlicmibgaaGreatDoorR1
set_option linter.unusedVariables false
set_option linter.unusedSimpArgs false
namespace Go.Proofs.YtionbmlicmibgaaGreatDoor
structure Cm where
 k : Int
 se : Int
 sq : Int
 a : Int
 sp : List Sp
 vo : List Int
deriving DecidableEq
def oM (lo n hi : Int) : Bool := decide (lo ≤ n) && decide (n ≤ hi)
theorem dj {lo n hi : Int} : oM lo n hi = true ↔ lo ≤ n ∧ n ≤ hi := by unfold oM; simp
def fJ (l : List Sp) : Bool := oM 1 l.length 8 && l.all Sp.ok
def Cm.may (c : Cm) : Bool :=
 if c.k = 0 then true else if c.k = 1 then true
 else if c.k = 2 then oM 1 c.se 1099511627776 && oM 1 c.sq 1099511627776 && fJ c.sp
 else if c.k = 3 then oM 0 c.a 1099511627776
 else if c.k = 4 then oM 0 c.a 1099511627777
 else if c.k = 5 then lU c.vo else false
def Cm.own (c : Cm) : Cm :=
 if c.k = 2 then ⟨c.k, c.se, c.sq, 0, c.sp, []⟩
 else if c.k = 3 then ⟨c.k, 0, 0, c.a, [], []⟩
 else if c.k = 4 then ⟨c.k, 0, 0, c.a, [], []⟩
 else if c.k = 5 then ⟨c.k, 0, 0, 0, [], c.vo⟩ else ⟨c.k, 0, 0, 0, [], []⟩
def Cm.like (a b : Cm) : Bool := a.k == b.k && (a.se == b.se && (a.sq == b.sq && (a.a == b.a && (a.sp.length == b.sp.length && a.vo.length == b.vo.length))))
def Cm.ok (c : Cm) : Bool := c.may && c.like c.own
theorem Cm.aO (c : Cm) : c.ok = true ↔
  ((c.k = 0 ∨ c.k = 1) ∧ c = ⟨c.k, 0, 0, 0, [], []⟩) ∨ (c.k = 2 ∧ c = ⟨2, c.se, c.sq, 0, c.sp, []⟩ ∧ oM 1 c.se 1099511627776 = true ∧ oM 1 c.sq 1099511627776 = true ∧ fJ c.sp = true) ∨
  (c.k = 3 ∧ c = ⟨3, 0, 0, c.a, [], []⟩ ∧ oM 0 c.a 1099511627776 = true) ∨ (c.k = 4 ∧ c = ⟨4, 0, 0, c.a, [], []⟩ ∧ oM 0 c.a 1099511627777 = true) ∨
  (c.k = 5 ∧ c = ⟨5, 0, 0, 0, [], c.vo⟩ ∧ lU c.vo = true) := by
 obtain ⟨k, se, sq, a, sp, vo⟩ := c;unfold Cm.ok Cm.may Cm.own Cm.like;dsimp only;by_cases h0 : k = 0
 ·subst h0;simp [aeg]
 by_cases h1 : k = 1
 ·subst h1;simp [aeg]
 by_cases h2 : k = 2
 ·subst h2;simp [aeg];constructor
  ·rintro ⟨⟨⟨a1, a2⟩, a3⟩, a4, a5⟩;exact ⟨⟨a4, a5⟩, a1, a2, a3⟩
  ·rintro ⟨⟨a4, a5⟩, a1, a2, a3⟩;exact ⟨⟨⟨a1, a2⟩, a3⟩, a4, a5⟩
 by_cases h3 : k = 3
 focus
  subst h3
 rotate_left;by_cases h4 : k = 4
 focus
  subst h4
 rotate_left;by_cases h5 : k = 5
 focus
  subst h5
 rotate_left;simp [h0, h1, h2, h3, h4, h5];all_goals
  simp [aeg];constructor
  ·rintro ⟨a1, a2, a3, a4, a5⟩;exact ⟨⟨a2, a3, a4, a5⟩, a1⟩
  ·rintro ⟨⟨a2, a3, a4, a5⟩, a1⟩;exact ⟨a1, a2, a3, a4, a5⟩
def fX (l : List Int) : List UInt8 := l.flatMap fun n => digits n.toNat
def NY (l : List UInt8) : List UInt8 := digits l.length ++ l
def Cm.bytes (c : Cm) : List UInt8 :=
 digits c.k.toNat ++ (if c.k = 2 then fX [c.se, c.sq] ++ NY (cN c.sp) else if c.k = 3 then fX [c.a] else if c.k = 4 then fX [c.a] else if c.k = 5 then fX [(c.vo.length : Int)] ++ fX c.vo else [])
theorem iZ (n : Int) (l : List Int) : fX (n :: l) = digits n.toNat ++ fX l := rfl
theorem Ot (l m : List Int) : fX (l ++ m) = fX l ++ fX m := adt
theorem Bc {l : List Int} {k : Nat} {n : Int} (h : l[k]? = some n) : fX (l.take (k + 1)) = fX (l.take k) ++ digits n.toNat := by
 rw [ac5, h, Ot]
 show _ ++ fX [n] = _
 rw [iZ]
 show _ ++ (digits n.toNat ++ []) = _
 rw [adh]
def oP (l : List UInt8) : Nat → Nat × Nat → List Int × (Nat × Nat)
 | 0, st => ([], st)
 | k + 1, st => (((nx l st).1 : Int) :: (oP l k (nx l st).2).1, (oP l k (nx l st).2).2)
def G_ (l : List UInt8) (st : Nat × Nat) : List Int × (Nat × Nat) := oP l (min (nx l st).1 7) (nx l st).2
def rT (l : List UInt8) : Cm :=
 let k : Nat := (nx l (0, 0)).1
 let st := (nx l (0, 0)).2
 if k = 2 then ⟨k, ((nx l st).1 : Nat), ((nx l (nx l st).2).1 : Nat), 0, (eT (tx l (l.length - (nx l (nx l st).2).2.1) (nx l (nx l st).2).2).1).1, []⟩
 else if k = 3 then ⟨k, 0, 0, ((nx l st).1 : Nat), [], []⟩ else if k = 4 then ⟨k, 0, 0, ((nx l st).1 : Nat), [], []⟩
 else if k = 5 then ⟨k, 0, 0, 0, [], (G_ l st).1⟩ else ⟨k, 0, 0, 0, [], []⟩
theorem yK {l : List UInt8} : ∀ (v : List Int) {a : Nat} {r : List UInt8}, (∀ n ∈ v, 0 ≤ n ∧ n < 9223372036854775808) → l.drop a = fX v ++ r → oP l v.length (a, 0) = (v, a + (fX v).length, 0)
 | [], a, r, _, h => by
  show ([], (a, 0)) = _
  simp [fX]
 | n :: v, a, r, hv, h => by
  have hn := hv n (ac8 ..);rw [iZ, ac7] at h;have h1 := au (l := l) (a := a) (n := n.toNat) (by omega) h;rw [acZ, oP, h1];dsimp only;rw [yK v (fun m hm => hv m (ade _ hm)) (ai h)];dsimp only;rw [iZ, acH, Nat.add_assoc]
  congr 2
  omega
theorem s8 : ∀ {l : List Int} {a : Int}, dF a l = true → a ≤ 7 → (l.length : Int) + a ≤ 7
 | [], a, _, ha => by simp; omega
 | x :: r, a, h, ha => by
  unfold dF at h;rw [adb, adb, adr, adr] at h;have := s8 h.2 (by omega);rw [acZ];omega
theorem jN {l : List Int} (h : lU l = true) : l.length ≤ 7 ∧ ∀ n ∈ l, 0 ≤ n ∧ n < 7 := by
 refine ⟨?_, Ou h⟩;unfold lU at h;rw [adb] at h;have h1 := s8 h.2 (by omega);omega
theorem td {l : List Sp} (h : fJ l = true) : 1 ≤ l.length ∧ l.length ≤ 8 ∧ ∀ x ∈ l, x.ok = true := by
 unfold fJ at h;rw [adb, dj] at h;exact ⟨by omega, by omega, adl.1 h.2⟩
theorem p_ {l : List Sp} (h : fJ l = true) : (cN l).length ≤ 1000 := by
 obtain ⟨_, h2, h3⟩ := td h;have h4 : ∀ m : List Sp, (∀ x ∈ m, x.ok = true) → ((m.map Sp.bytes).flatten).length ≤ m.length * 100 := by
  intro m
  induction m with
  | nil => simp
  | cons x r ih =>
   intro hm;have hx := (Sp.aO x).1 (hm x (ac8 ..));have h5 := ih fun y hy => hm y (ade _ hy);rw [ad7, aej, acH, acZ];have h6 : x.bytes.length ≤ 100 := by
    have t := hx.t2; have t' := hx.t1; have i := hx.i2; have i' := hx.i1; have p := hx.p2; have p' := hx.p1; have s := hx.s2; have s' := hx.s1; have e := hx.e2;have d1 := digits_length x.t.toNat (by omega);have d2 := digits_length x.i.toNat (by omega);have d3 := digits_length x.p.toNat (by omega);have d4 := digits_length x.s.toNat (by omega);have d5 := digits_length (x.e - x.s).toNat (by omega);have vV : x.nl.length ≤ 32 := by
     have h7 := hm x (ac8 ..);simp only [Sp.ok, kZ, adb, adr] at h7;exact h7.2.1.2
    have d6 := digits_length x.nl.length (by omega);unfold Sp.bytes;simp only [acH];omega
   omega
 have h5 := h4 l h3;have h6 := digits_length l.length (by omega);unfold cN;rw [acH];omega
theorem Ib {c : Cm} (h : c.ok = true) : rT c.bytes = c := by
 rcases (Cm.aO c).1 h with ⟨h1, h2⟩ | ⟨h1, h2, h3, h4, h5⟩ | ⟨h1, h2, h3⟩ | ⟨h1, h2, h3⟩ | ⟨h1, h2, h3⟩
 ·have hb : c.bytes.drop 0 = digits c.k.toNat ++ [] := by
   rw [h2];unfold Cm.bytes;rcases h1 with h1 | h1 <;> rw [h1] <;> rfl
  have hn := au (l := c.bytes) (a := 0) (n := c.k.toNat) (by omega) hb;unfold rT;rw [hn];dsimp only;rcases h1 with h1 | h1 <;> rw [h1] at h2 ⊢ <;> rw [h2] <;> rfl
 ·obtain ⟨k, se, sq, a, sp, vo⟩ := c;simp only [Cm.mk.injEq] at h2;obtain ⟨rfl, _, _, rfl, _, rfl⟩ := h2;dsimp only at h3 h4 h5;rw [dj] at h3 h4;have hb : (Cm.bytes ⟨2, se, sq, 0, sp, []⟩).drop 0 = digits 2 ++ (digits se.toNat ++ (digits sq.toNat ++ (digits (cN sp).length ++ (cN sp ++ [])))) := by
   unfold Cm.bytes;simp [fX, NY]
  generalize Cm.bytes ⟨2, se, sq, 0, sp, []⟩ = l at hb;have n1 := au (l := l) (a := 0) (n := 2) (by omega) hb;have aK := ai hb;have n2 := au (l := l) (n := se.toNat) (by omega) aK;have aP := ai aK;have n3 := au (l := l) (n := sq.toNat) (by omega) aP;have cF := ai aP;have hl := aec List.length cF;rw [adg, acH, acH] at hl;have hp := bZ (cN sp).length;have he := p_ h5;have ht := fa (l := l) (most := l.length - (0 + (digits 2).length + (digits se.toNat).length + (digits sq.toNat).length)) (x := cN sp) (by omega) (by omega) (by omega) cF;obtain ⟨_, q2, q3⟩ := td h5;have hg := ku sp (by omega) q3;unfold rT;rw [n1];dsimp only;rw [n2];dsimp only;rw [n3];dsimp only;rw [ht];dsimp only;rw [hg];simp;omega
 ·obtain ⟨k, se, sq, a, sp, vo⟩ := c;simp only [Cm.mk.injEq] at h2;obtain ⟨rfl, rfl, rfl, _, rfl, rfl⟩ := h2;dsimp only at h3;rw [dj] at h3;have hb : (Cm.bytes ⟨3, 0, 0, a, [], []⟩).drop 0 = digits 3 ++ (digits a.toNat ++ []) := by
   unfold Cm.bytes;simp [fX]
  generalize Cm.bytes ⟨3, 0, 0, a, [], []⟩ = l at hb;have n1 := au (l := l) (a := 0) (n := 3) (by omega) hb;have n2 := au (l := l) (n := a.toNat) (by omega) (ai hb);unfold rT;rw [n1];dsimp only;rw [n2];simp;omega
 ·obtain ⟨k, se, sq, a, sp, vo⟩ := c;simp only [Cm.mk.injEq] at h2;obtain ⟨rfl, rfl, rfl, _, rfl, rfl⟩ := h2;dsimp only at h3;rw [dj] at h3;have hb : (Cm.bytes ⟨4, 0, 0, a, [], []⟩).drop 0 = digits 4 ++ (digits a.toNat ++ []) := by
   unfold Cm.bytes;simp [fX]
  generalize Cm.bytes ⟨4, 0, 0, a, [], []⟩ = l at hb;have n1 := au (l := l) (a := 0) (n := 4) (by omega) hb;have n2 := au (l := l) (n := a.toNat) (by omega) (ai hb);unfold rT;rw [n1];dsimp only;rw [n2];simp;omega
 ·obtain ⟨k, se, sq, a, sp, vo⟩ := c;simp only [Cm.mk.injEq] at h2;obtain ⟨rfl, rfl, rfl, rfl, rfl, _⟩ := h2;dsimp only at h3;obtain ⟨q1, q2⟩ := jN h3;have hb : (Cm.bytes ⟨5, 0, 0, 0, [], vo⟩).drop 0 = digits 5 ++ (digits vo.length ++ (fX vo ++ [])) := by
   unfold Cm.bytes;simp [fX]
  generalize Cm.bytes ⟨5, 0, 0, 0, [], vo⟩ = l at hb;have n1 := au (l := l) (a := 0) (n := 5) (by omega) hb;have n2 := au (l := l) (n := vo.length) (by omega) (ai hb);have n3 := yK (l := l) vo (fun n hn => by have := q2 n hn; omega) (ai (ai hb));unfold rT G_;rw [n1];dsimp only;rw [n2];dsimp only;rw [Nat.min_eq_left (by omega), n3];simp
def jY (l : List UInt8) : Option Cm := if (rT l).ok = true ∧ (rT l).bytes = l then some (rT l) else none
theorem sR {c : Cm} (h : c.ok = true) : jY c.bytes = some c := by
 unfold jY;rw [Ib h, acW ⟨h, rfl⟩]
theorem gD {l : List UInt8} {c : Cm} (h : jY l = some c) : c.ok = true ∧ c.bytes = l ∧ rT l = c := by
 unfold jY at h
 split at h
 ·rename_i h1;injection h with h;subst h;exact ⟨h1.1, h1.2, rfl⟩
 ·cases h
end Go.Proofs.YtionbmlicmibgaaGreatDoor
