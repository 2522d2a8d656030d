/- Spans plainly: which may be, their bytes, how they are read, their order. -/
import Derived.Test.YtimjplkehlgelaaGreatWir
import Derived.Lib.Bytealg
namespace Go.Proofs.YtimjplkehlgelaaGreat
set_option linter.unusedVariables false
set_option linter.unusedSimpArgs false

/-- A span. -/
structure Sp where
  t : Int
  i : Int
  p : Int
  s : Int
  e : Int
  n : ByteArray
deriving DecidableEq

instance : Inhabited Sp := ⟨⟨0, 0, 0, 0, 0, ByteArray.empty⟩⟩

/-- Its name's bytes. -/
def Sp.nl (x : Sp) : List UInt8 := x.n.data.toList
def far : Int := 1099511627776
def okByte (c : UInt8) : Bool := decide (33 ≤ c.toNat) && decide (c.toNat ≤ 126)
def okName (l : List UInt8) : Bool := decide (1 ≤ l.length) && decide (l.length ≤ 32) && l.all okByte
def okStand (x : Sp) : Bool := decide (1 ≤ x.t) && decide (x.t ≤ 1099511627776) && (decide (1 ≤ x.i) && decide (x.i ≤ 1099511627776)) && (decide (0 ≤ x.p) && decide (x.p ≤ 1099511627776)) && !decide (x.p = x.i)
def okTake (x : Sp) : Bool := decide (0 ≤ x.s) && decide (x.s ≤ x.e) && decide (x.e ≤ 1099511627776)
/-- Whether it may be. -/
def Sp.ok (x : Sp) : Bool := okStand x && okTake x && okName x.nl

structure Sp.Ok (x : Sp) : Prop where
  t1 : 1 ≤ x.t
  t2 : x.t ≤ 1099511627776
  i1 : 1 ≤ x.i
  i2 : x.i ≤ 1099511627776
  p1 : 0 ≤ x.p
  p2 : x.p ≤ 1099511627776
  s1 : 0 ≤ x.s
  s2 : x.s ≤ x.e
  e2 : x.e ≤ 1099511627776
  ne : x.p ≠ x.i
  n1 : 1 ≤ x.nl.length
  n2 : x.nl.length ≤ 32
  n3 : x.nl.all okByte = true

theorem Sp.ok_iff (x : Sp) : x.ok = true ↔ x.Ok := by
  unfold Sp.ok okStand okTake okName
  simp only [Bool.and_eq_true, decide_eq_true_eq, Bool.not_eq_true', decide_eq_false_iff_not]
  constructor
  · rintro ⟨⟨⟨⟨⟨⟨a, b⟩, c, d⟩, e, f⟩, g⟩, ⟨h, i⟩, j⟩, ⟨k, l⟩, m⟩
    exact ⟨a, b, c, d, e, f, h, i, j, g, k, l, m⟩
  · rintro ⟨a, b, c, d, e, f, h, i, j, g, k, l, m⟩
    exact ⟨⟨⟨⟨⟨⟨a, b⟩, c, d⟩, e, f⟩, g⟩, ⟨h, i⟩, j⟩, ⟨k, l⟩, m⟩

/-- One span's bytes. -/
def Sp.bytes (x : Sp) : List UInt8 := digits x.t.toNat ++ (digits x.i.toNat ++ (digits x.p.toNat ++ (digits x.s.toNat ++ (digits (x.e - x.s).toNat ++ (digits x.nl.length ++ x.nl)))))
/-- Spans' bytes. -/
def encL (l : List Sp) : List UInt8 := digits l.length ++ (l.map Sp.bytes).flatten

theorem rd_bad0 : ∀ (l : List UInt8) (i z : Nat) {n k e : Nat}, rd l i z = (n, k, e) → e ≠ 0 → n = 0
  | [], i, z, n, k, e, h, he => by simp only [rd, Prod.mk.injEq] at h; omega
  | x :: r, i, z, n, k, e, h, he => by
    rw [rd_cons] at h
    split at h
    · simp only [Prod.mk.injEq] at h; omega
    · split at h
      · simp only [Prod.mk.injEq] at h; omega
      · split at h
        · simp only [Prod.mk.injEq] at h; omega
        · exact rd_bad0 r _ _ h he
theorem readNum_bad0 {l : List UInt8} {n k e : Nat} (h : readNum l = (n, k, e)) (he : e ≠ 0) : n = 0 := rd_bad0 l 0 0 h he

/-! ## Reading -/
/-- A number behind a place, if there is no error so far: it, the place behind, the error. -/
def nx (l : List UInt8) (st : Nat × Nat) : Nat × Nat × Nat :=
  if st.2 ≠ 0 then (0, st.1, st.2) else ((readNum (l.drop st.1)).1, st.1 + (readNum (l.drop st.1)).2.1, (readNum (l.drop st.1)).2.2)

theorem nx_bad {l : List UInt8} {st : Nat × Nat} {n a e : Nat} (h : nx l st = (n, a, e)) (he : e ≠ 0) : n = 0 ∧ (st.2 ≠ 0 → e = st.2 ∧ a = st.1) := by
  unfold nx at h
  split at h
  · simp only [Prod.mk.injEq] at h
    obtain ⟨rfl, rfl, rfl⟩ := h
    exact ⟨rfl, fun _ => ⟨rfl, rfl⟩⟩
  · rename_i h0
    simp only [Prod.mk.injEq] at h
    obtain ⟨h1, h2, h3⟩ := h
    have := (readNum_bad0 (l := l.drop st.1) (n := n) (k := (readNum (l.drop st.1)).2.1) (e := e) (by rw [← h1, ← h3]) he)
    exact ⟨this, fun h => absurd h h0⟩

/-- What was read as a number is its own form. -/
theorem nx_form {l : List UInt8} {st : Nat × Nat} {n a : Nat} (h : nx l st = (n, a, 0)) (hl : st.1 ≤ l.length) : st.2 = 0 ∧ st.1 ≤ a ∧ a ≤ l.length ∧ l.drop st.1 = digits n ++ l.drop a ∧ n < 9223372036854775808 := by
  unfold nx at h
  split at h
  · rename_i h0
    simp only [Prod.mk.injEq] at h
    exact absurd h.2.2 h0
  · rename_i h0
    simp only [Prod.mk.injEq] at h
    obtain ⟨h1, h2, h3⟩ := h
    obtain ⟨n', k, e', hR⟩ : ∃ n k e, readNum (l.drop st.1) = (n, k, e) := ⟨_, _, _, rfl⟩
    rw [hR] at h1 h2 h3
    dsimp only at h1 h2 h3
    subst h1 h3
    obtain ⟨g1, g2, g3, g4⟩ := readNum_form hR
    rw [List.length_drop] at g1
    refine ⟨by omega, by omega, by omega, ?_, Nat.lt_of_lt_of_le g4 (Nat.le_trans (Nat.pow_le_pow_right (by decide) g2) (by decide))⟩
    rw [← g3, ← h2, ← List.drop_drop, List.take_append_drop]

theorem nx_digits {l : List UInt8} {a n : Nat} {r : List UInt8} (hn : n < 9223372036854775808) (h : l.drop a = digits n ++ r) : nx l (a, 0) = (n, a + (digits n).length, 0) := by
  unfold nx
  rw [if_neg (by simp), h, readNum_digits hn]

theorem drop_more {l : List UInt8} {a : Nat} {x r : List UInt8} (h : l.drop a = x ++ r) : l.drop (a + x.length) = r := by
  rw [← List.drop_drop, h, List.drop_left]

/-- A text behind a place, if there is no error so far. -/
def tx (l : List UInt8) (most : Nat) (st : Nat × Nat) : List UInt8 × Nat × Nat :=
  if st.2 ≠ 0 then ([], st.1, st.2)
  else if (readNum (l.drop st.1)).2.2 ≠ 0 then ([], st.1, (readNum (l.drop st.1)).2.2)
  else if most < (readNum (l.drop st.1)).1 then ([], st.1, 4)
  else if l.length < st.1 + (readNum (l.drop st.1)).2.1 + (readNum (l.drop st.1)).1 then ([], st.1, 2)
  else ((l.drop (st.1 + (readNum (l.drop st.1)).2.1)).take (readNum (l.drop st.1)).1, st.1 + (readNum (l.drop st.1)).2.1 + (readNum (l.drop st.1)).1, 0)

theorem tx_bad {l : List UInt8} {most : Nat} {st : Nat × Nat} {x : List UInt8} {a e : Nat} (h : tx l most st = (x, a, e)) (he : e ≠ 0) : x = [] := by
  unfold tx at h
  split at h
  · simp only [Prod.mk.injEq] at h; exact h.1.symm
  · split at h
    · simp only [Prod.mk.injEq] at h; exact h.1.symm
    · split at h
      · simp only [Prod.mk.injEq] at h; exact h.1.symm
      · split at h
        · simp only [Prod.mk.injEq] at h; exact h.1.symm
        · simp only [Prod.mk.injEq] at h; exact absurd h.2.2.symm he

theorem tx_form {l : List UInt8} {most : Nat} {st : Nat × Nat} {x : List UInt8} {a : Nat} (h : tx l most st = (x, a, 0)) (hl : st.1 ≤ l.length) : st.2 = 0 ∧ st.1 ≤ a ∧ a ≤ l.length ∧ l.drop st.1 = digits x.length ++ (x ++ l.drop a) ∧ x.length ≤ most := by
  unfold tx at h
  split at h
  · rename_i h0
    simp only [Prod.mk.injEq] at h; exact absurd h.2.2 h0
  · rename_i h0
    obtain ⟨n, k, e, hR⟩ : ∃ n k e, readNum (l.drop st.1) = (n, k, e) := ⟨_, _, _, rfl⟩
    rw [hR] at h
    dsimp only at h
    split at h
    · rename_i h1
      simp only [Prod.mk.injEq] at h; exact absurd h.2.2 h1
    · rename_i h1
      have he : e = 0 := by omega
      subst he
      split at h
      · simp at h
      · rename_i h2
        split at h
        · simp at h
        · rename_i h3
          simp only [Prod.mk.injEq, and_true] at h
          obtain ⟨hx, ha⟩ := h
          obtain ⟨g1, g2, g3, g4⟩ := readNum_form hR
          rw [List.length_drop] at g1
          have hxl : x.length = n := by rw [← hx, List.length_take, List.length_drop]; omega
          refine ⟨by omega, by omega, by omega, ?_, by omega⟩
          have q1 : l.drop a = ((l.drop st.1).drop k).drop n := by rw [List.drop_drop, List.drop_drop, ← ha, Nat.add_assoc]
          have q2 : l.drop (st.1 + k) = (l.drop st.1).drop k := by rw [List.drop_drop]
          rw [hxl, ← hx, q2, q1, ← g3, List.take_append_drop, List.take_append_drop]

theorem tx_digits {l : List UInt8} {most a : Nat} {x r : List UInt8} (hx : x.length ≤ most) (hm : most < 1000) (ha : a ≤ l.length) (h : l.drop a = digits x.length ++ (x ++ r)) : tx l most (a, 0) = (x, a + (digits x.length).length + x.length, 0) := by
  have hl := congrArg List.length h
  rw [List.length_drop, List.length_append, List.length_append] at hl
  unfold tx
  rw [if_neg (by simp)]
  dsimp only
  rw [h, readNum_digits (by omega)]
  dsimp only
  rw [if_neg (by simp), if_neg (by omega), if_neg (by omega), drop_more h, List.take_left]

/-- A number's sum with another one, as the machine has it. -/
def sumW (a b : Nat) : Int := IntKind.i64.wrap ((a : Int) + (b : Int))

/-- The span behind a place, as it is read. -/
def nextS (l : List UInt8) (st : Nat × Nat) : Sp × Nat × Nat :=
  let r1 := nx l st
  let r2 := nx l r1.2
  let r3 := nx l r2.2
  let r4 := nx l r3.2
  let r5 := nx l r4.2
  let r6 := tx l 32 r5.2
  (⟨r1.1, r2.1, r3.1, r4.1, sumW r4.1 r5.1, ⟨r6.1.toArray⟩⟩, r6.2)

theorem sumW_big {a b : Nat} (ha : a < 9223372036854775808) (hb : b < 9223372036854775808) (h : 9223372036854775808 ≤ a + b) : sumW a b < (a : Int) := by
  unfold sumW
  rw [IntKind.wrap_i64]
  omega
theorem sumW_small {a b : Nat} (h : a + b < 9223372036854775808) : sumW a b = (a : Int) + (b : Int) := by
  unfold sumW
  rw [IntKind.wrap_i64]
  omega

theorem nl_mk (x : List UInt8) (a b c d e : Int) : Sp.nl ⟨a, b, c, d, e, ⟨x.toArray⟩⟩ = x := by simp [Sp.nl]

/-- A span that is read and may be: its bytes stood there. -/
theorem nextS_form {l : List UInt8} {a : Nat} {x : Sp} {st : Nat × Nat} (h : nextS l (a, 0) = (x, st)) (hl : a ≤ l.length) (hx : x.ok = true) :
    st.2 = 0 ∧ a < st.1 ∧ st.1 ≤ l.length ∧ l.drop a = x.bytes ++ l.drop st.1 := by
  rw [Sp.ok_iff] at hx
  unfold nextS at h
  obtain ⟨n1, a1, e1, h1⟩ : ∃ n a' e, nx l (a, 0) = (n, a', e) := ⟨_, _, _, rfl⟩
  rw [h1] at h; dsimp only at h
  obtain ⟨n2, a2, e2, h2⟩ : ∃ n a e, nx l (a1, e1) = (n, a, e) := ⟨_, _, _, rfl⟩
  rw [h2] at h; dsimp only at h
  obtain ⟨n3, a3, e3, h3⟩ : ∃ n a e, nx l (a2, e2) = (n, a, e) := ⟨_, _, _, rfl⟩
  rw [h3] at h; dsimp only at h
  obtain ⟨n4, a4, e4, h4⟩ : ∃ n a e, nx l (a3, e3) = (n, a, e) := ⟨_, _, _, rfl⟩
  rw [h4] at h; dsimp only at h
  obtain ⟨n5, a5, e5, h5⟩ : ∃ n a e, nx l (a4, e4) = (n, a, e) := ⟨_, _, _, rfl⟩
  rw [h5] at h; dsimp only at h
  obtain ⟨x6, a6, e6, h6⟩ : ∃ n a e, tx l 32 (a5, e5) = (n, a, e) := ⟨_, _, _, rfl⟩
  rw [h6] at h; dsimp only at h
  simp only [Prod.mk.injEq] at h
  obtain ⟨rfl, rfl⟩ := h
  have hn1 := hx.n1
  rw [nl_mk] at hn1
  have E6 : e6 = 0 := by
    by_cases he : e6 = 0
    · exact he
    · rw [tx_bad h6 he] at hn1
      simp at hn1
  subst E6
  have hb5 : a5 ≤ l.length → e5 = 0 ∧ _ := fun q => tx_form h6 q
  have E5 : e5 = 0 := by
    by_cases he : e5 = 0
    · exact he
    · exfalso
      unfold tx at h6
      rw [if_pos he] at h6
      simp only [Prod.mk.injEq] at h6
      exact he h6.2.2
  subst E5
  have E4 : e4 = 0 := by
    by_cases he : e4 = 0
    · exact he
    · exfalso
      unfold nx at h5
      rw [if_pos he] at h5
      simp only [Prod.mk.injEq] at h5
      exact he h5.2.2
  subst E4
  have E3 : e3 = 0 := by
    by_cases he : e3 = 0
    · exact he
    · exfalso
      unfold nx at h4
      rw [if_pos he] at h4
      simp only [Prod.mk.injEq] at h4
      exact he h4.2.2
  subst E3
  have E2 : e2 = 0 := by
    by_cases he : e2 = 0
    · exact he
    · exfalso
      unfold nx at h3
      rw [if_pos he] at h3
      simp only [Prod.mk.injEq] at h3
      exact he h3.2.2
  subst E2
  have E1 : e1 = 0 := by
    by_cases he : e1 = 0
    · exact he
    · exfalso
      unfold nx at h2
      rw [if_pos he] at h2
      simp only [Prod.mk.injEq] at h2
      exact he h2.2.2
  subst E1
  obtain ⟨-, b1, c1, d1, l1⟩ := nx_form h1 hl
  obtain ⟨-, b2, c2, d2, l2⟩ := nx_form h2 c1
  obtain ⟨-, b3, c3, d3, l3⟩ := nx_form h3 c2
  obtain ⟨-, b4, c4, d4, l4⟩ := nx_form h4 c3
  obtain ⟨-, b5, c5, d5, l5⟩ := nx_form h5 c4
  obtain ⟨-, b6, c6, d6, l6⟩ := tx_form h6 c5
  dsimp only at *
  have hs2 : (n4 : Int) ≤ sumW n4 n5 := hx.s2
  have hlt : n4 + n5 < 9223372036854775808 := by
    by_cases hh : n4 + n5 < 9223372036854775808
    · exact hh
    · have := sumW_big l4 l5 (by omega)
      omega
  have hs := sumW_small hlt
  refine ⟨rfl, ?_, c6, ?_⟩
  · have e6 := congrArg List.length d6
    rw [List.length_drop, List.length_append, List.length_append, List.length_drop] at e6
    omega
  · unfold Sp.bytes
    rw [nl_mk]
    dsimp only
    rw [hs, show ((n4 : Int) + (n5 : Int) - (n4 : Int)).toNat = n5 by omega, Int.toNat_natCast, Int.toNat_natCast, Int.toNat_natCast, Int.toNat_natCast]
    rw [d1, d2, d3, d4, d5, d6]
    simp only [List.append_assoc]

theorem nextS_bytes {l : List UInt8} {a : Nat} {x : Sp} {r : List UInt8} (hl : a ≤ l.length) (hx : x.ok = true) (h : l.drop a = x.bytes ++ r) : nextS l (a, 0) = (x, a + x.bytes.length, 0) := by
  rw [Sp.ok_iff] at hx
  have hx' := hx
  obtain ⟨t1, t2, i1, i2, p1, p2, s1, s2, e2, ne, n1, n2, n3⟩ := hx'
  have hlen := congrArg List.length h
  rw [List.length_drop, List.length_append] at hlen
  unfold Sp.bytes at h
  simp only [List.append_assoc] at h
  have h1 := nx_digits (by omega) h
  have g1 := drop_more h
  have h2 := nx_digits (by omega) g1
  have g2 := drop_more g1
  have h3 := nx_digits (by omega) g2
  have g3 := drop_more g2
  have h4 := nx_digits (by omega) g3
  have g4 := drop_more g3
  have h5 := nx_digits (by omega) g4
  have g5 := drop_more g4
  have hbl : x.bytes.length = (digits x.t.toNat).length + ((digits x.i.toNat).length + ((digits x.p.toNat).length + ((digits x.s.toNat).length + ((digits (x.e - x.s).toNat).length + ((digits x.nl.length).length + x.nl.length))))) := by
    unfold Sp.bytes
    simp only [List.length_append]
  have h6 := tx_digits (most := 32) n2 (by omega) (by omega) g5
  unfold nextS
  rw [h1]; dsimp only
  rw [h2]; dsimp only
  rw [h3]; dsimp only
  rw [h4]; dsimp only
  rw [h5]; dsimp only
  rw [h6]; dsimp only
  rw [sumW_small (by omega)]
  have q1 : ((x.t.toNat : Nat) : Int) = x.t := by omega
  have q2 : ((x.i.toNat : Nat) : Int) = x.i := by omega
  have q3 : ((x.p.toNat : Nat) : Int) = x.p := by omega
  have q4 : ((x.s.toNat : Nat) : Int) = x.s := by omega
  have q5 : x.s + (((x.e - x.s).toNat : Nat) : Int) = x.e := by omega
  have q6 : (⟨x.nl.toArray⟩ : ByteArray) = x.n := by simp [Sp.nl]
  rw [q1, q2, q3, q4, q5, q6]
  simp only [Prod.mk.injEq, and_true]
  refine ⟨trivial, ?_⟩
  rw [hbl]
  omega

/-- So many spans behind a place, each of which may be: they, the place behind and the error; none: one may not. -/
def getG (l : List UInt8) : Nat → Nat × Nat → Option (List Sp × Nat × Nat)
  | 0, st => some ([], st)
  | k + 1, st => if (nextS l st).1.ok then (getG l k (nextS l st).2).map fun r => ((nextS l st).1 :: r.1, r.2) else none

/-- What Get says of bytes: the spans and the error. -/
def getP (l : List UInt8) : List Sp × Nat :=
  match getG l (nx l (0, 0)).1 (nx l (0, 0)).2 with
  | none => ([], 30)
  | some (r, a, e) => if e = 0 ∧ a = l.length then (r, 0) else ([], 30)

theorem getG_bad {l : List UInt8} : ∀ {k : Nat} {a e : Nat} {r : List Sp} {st : Nat × Nat}, e ≠ 0 → getG l k (a, e) = some (r, st) → st.2 ≠ 0
  | 0, a, e, r, st, he, h => by
    simp only [getG, Option.some.injEq, Prod.mk.injEq] at h
    rw [← h.2]
    exact he
  | k + 1, a, e, r, st, he, h => by
    exfalso
    rw [getG] at h
    split at h
    · rename_i hok
      rw [Sp.ok_iff] at hok
      have hn := hok.t1
      have hz : (nextS l (a, e)).1.t = 0 := by
        unfold nextS nx
        dsimp only
        rw [if_pos he]
        rfl
      omega
    · cases h

theorem getG_form {l : List UInt8} : ∀ {k a : Nat} {r : List Sp} {st : Nat × Nat}, a ≤ l.length → getG l k (a, 0) = some (r, st) → st.2 = 0 ∧ a ≤ st.1 ∧ st.1 ≤ l.length ∧ r.length = k ∧ (∀ x ∈ r, Sp.ok x = true) ∧ l.drop a = (r.map Sp.bytes).flatten ++ l.drop st.1
  | 0, a, r, st, ha, h => by
    simp only [getG, Option.some.injEq, Prod.mk.injEq] at h
    obtain ⟨rfl, rfl⟩ := h
    exact ⟨rfl, Nat.le_refl _, ha, rfl, (fun x hx => by cases hx), by simp⟩
  | k + 1, a, r, st, ha, h => by
    rw [getG] at h
    obtain ⟨x, a1, e1, hN⟩ : ∃ x a1 e1, nextS l (a, 0) = (x, a1, e1) := ⟨_, _, _, rfl⟩
    rw [hN] at h
    dsimp only at h
    split at h
    · rename_i hok
      obtain ⟨E, b, c, d⟩ := nextS_form hN ha hok
      dsimp only at E b c d
      subst E
      cases hg : getG l k (a1, 0) with
      | none => rw [hg] at h; cases h
      | some q =>
        rw [hg] at h
        simp only [Option.map_some, Option.some.injEq, Prod.mk.injEq] at h
        obtain ⟨rfl, rfl⟩ := h
        obtain ⟨f1, f2, f3, f4, f5, f6⟩ := getG_form (r := q.1) (st := q.2) c hg
        refine ⟨f1, by omega, f3, by simp [f4], ?_, ?_⟩
        · intro y hy
          rcases List.mem_cons.1 hy with rfl | hy
          · exact hok
          · exact f5 y hy
        · rw [d, f6]
          simp
    · cases h

theorem getG_bytes {l : List UInt8} : ∀ (r : List Sp) {a : Nat} {z : List UInt8}, a ≤ l.length → (∀ x ∈ r, Sp.ok x = true) → l.drop a = (r.map Sp.bytes).flatten ++ z → getG l r.length (a, 0) = some (r, a + (r.map Sp.bytes).flatten.length, 0)
  | [], a, z, _, _, _ => rfl
  | x :: r, a, z, ha, hok, h => by
    have hx := hok x (by simp)
    rw [List.map_cons, List.flatten_cons, List.append_assoc] at h
    have hlen := congrArg List.length h
    rw [List.length_drop, List.length_append, List.length_append] at hlen
    have hN := nextS_bytes ha hx h
    rw [List.length_cons, getG, hN]
    dsimp only
    rw [if_pos hx, getG_bytes r (by omega) (fun y hy => hok y (by simp [hy])) (drop_more h)]
    simp [Nat.add_assoc]

/-- What a Get says: the spans whose bytes they are, or none. -/
def GetIs (l : List UInt8) (r : List Sp) (e : Nat) : Prop := (e = 0 ∧ (∀ x ∈ r, Sp.ok x = true) ∧ encL r = l) ∨ (e = 30 ∧ r = [] ∧ ∀ m : List Sp, m.length < 9223372036854775808 → (∀ x ∈ m, Sp.ok x = true) → encL m ≠ l)

theorem getP_enc (m : List Sp) (hm : m.length < 9223372036854775808) (hok : ∀ x ∈ m, Sp.ok x = true) : getP (encL m) = (m, 0) := by
  have h0 : (encL m).drop 0 = digits m.length ++ (m.map Sp.bytes).flatten := rfl
  have h1 := nx_digits hm h0
  have g1 := drop_more h0
  have hl : (encL m).length = (digits m.length).length + (m.map Sp.bytes).flatten.length := by unfold encL; rw [List.length_append]
  unfold getP
  rw [h1]
  dsimp only
  rw [getG_bytes m (z := []) (by omega) hok (by rw [g1, List.append_nil])]
  dsimp only
  rw [if_pos ⟨rfl, by omega⟩]

theorem getP_is (l : List UInt8) : GetIs l (getP l).1 (getP l).2 := by
  have hno : getP l = ([], 30) → GetIs l (getP l).1 (getP l).2 := by
    intro h
    rw [h]
    refine .inr ⟨rfl, rfl, fun m hm hok e => ?_⟩
    rw [← e, getP_enc m hm hok] at h
    simp at h
  obtain ⟨n, a, e, hN⟩ : ∃ n a e, nx l (0, 0) = (n, a, e) := ⟨_, _, _, rfl⟩
  cases hg : getG l n (a, e) with
  | none =>
    apply hno
    unfold getP
    rw [hN]
    dsimp only
    rw [hg]
  | some q =>
    obtain ⟨r, a', e'⟩ := q
    by_cases hc : e' = 0 ∧ a' = l.length
    · have hP : getP l = (r, 0) := by
        unfold getP
        rw [hN]
        dsimp only
        rw [hg]
        dsimp only
        rw [if_pos hc]
      rw [hP]
      obtain ⟨rfl, rfl⟩ := hc
      have he : e = 0 := by
        by_cases he : e = 0
        · exact he
        · exact absurd rfl (getG_bad he hg)
      subst he
      obtain ⟨-, -, c, d, hlt⟩ := nx_form hN (Nat.zero_le _)
      dsimp only at c d
      obtain ⟨-, -, -, g4, g5, g6⟩ := getG_form c hg
      refine .inl ⟨rfl, g5, ?_⟩
      unfold encL
      rw [g4]
      rw [List.drop_zero] at d
      rw [List.drop_length, List.append_nil] at g6
      rw [d, g6]
    · apply hno
      unfold getP
      rw [hN]
      dsimp only
      rw [hg]
      dsimp only
      rw [if_neg hc]

theorem GetIs.one {l : List UInt8} {r r' : List Sp} {e e' : Nat} (h : GetIs l r e) (h' : GetIs l r' e') (hr : r.length < 9223372036854775808) (hr' : r'.length < 9223372036854775808) : r = r' ∧ e = e' := by
  rcases h with ⟨rfl, hok, rfl⟩ | ⟨rfl, rfl, hno⟩
  · rcases h' with ⟨rfl, hok', he⟩ | ⟨rfl, rfl, hno'⟩
    · have h1 := getP_enc r hr hok
      have h2 := getP_enc r' hr' hok'
      rw [he, h1] at h2
      simp only [Prod.mk.injEq, and_true] at h2
      exact ⟨h2, rfl⟩
    · exact absurd rfl (hno' r hr hok)
  · rcases h' with ⟨rfl, hok', rfl⟩ | ⟨rfl, rfl, _⟩
    · exact absurd rfl (hno r' hr' hok')
    · exact ⟨rfl, rfl⟩
end Go.Proofs.YtimjplkehlgelaaGreat
