import Derived.Test.YtionbmlicmibgaaGreatDoorS14
import Derived.Test.YtionbmlicmibgaaGreatDoorS9
import Derived.Test.YtionbmlicmibgaaGreatDoorS11p
namespace Go.Proofs.YtionbmlicmibgaaGreatDoor
set_option linter.unusedVariables false
set_option linter.unusedSimpArgs false
def longS (l : List UInt8) (st : Nat × Nat) : Nat := (nx l (nx l (nx l (nx l (nx l st).2).2).2).2).1
def startS (l : List UInt8) (st : Nat × Nat) : Nat := (nx l (nx l (nx l (nx l st).2).2).2).1
def fineS (l : List UInt8) (st : Nat × Nat) : Prop := (nextS l st).2.2 = 0 ∧ longS l st ≤ 1099511627776 ∧ startS l st ≤ 1099511627776
instance (l : List UInt8) (st : Nat × Nat) : Decidable (fineS l st) := by unfold fineS; exact inferInstance
def refG (l : List UInt8) : Nat → Nat × Nat → Option (List Sp)
 | 0, st => some []
 | k + 1, st => if fineS l st then (refG l k (nextS l st).2).map fun r => (nextS l st).1 :: r else none
def refT (l : List UInt8) (r : List Sp) (k : Nat) (st : Nat × Nat) : List Sp × Nat :=
 match refG l k st with
 | none => ([], 30)
 | some r' => if putB (r ++ r') = (l, 0) then (r ++ r', 0) else ([], 30)
def refP (l : List UInt8) : List Sp × Nat := refT l [] (nx l (0, 0)).1 (nx l (0, 0)).2
theorem refT_ok {l : List UInt8} {r : List Sp} {k : Nat} {st : Nat × Nat} (h : fineS l st) : refT l r (k + 1) st = refT l (r ++ [(nextS l st).1]) k (nextS l st).2 := by
 unfold refT
 rw [refG, if_pos h]
 cases refG l k (nextS l st).2 with
 | none => rfl
 | some q => simp
theorem refT_bad {l : List UInt8} {r : List Sp} {k : Nat} {st : Nat × Nat} (h : ¬ fineS l st) : refT l r (k + 1) st = ([], 30) := by
 unfold refT
 rw [refG, if_neg h]
theorem refT_end {l : List UInt8} {r : List Sp} {st : Nat × Nat} : refT l r 0 st = if putB r = (l, 0) then (r, 0) else ([], 30) := by
 unfold refT
 rw [refG]
 simp
theorem long_eq (l : List UInt8) (st : Nat × Nat) : (nextS l st).1.s = startS l st ∧ (nextS l st).1.e = sumW (startS l st) (longS l st) := ⟨rfl, rfl⟩
theorem long_lt {l : List UInt8} {st : Nat × Nat} (h : st.1 ≤ l.length) : longS l st < 9223372036854775808 ∧ startS l st < 9223372036854775808 :=
 ⟨(nx_le (nx_le (nx_le (nx_le (nx_le h).1).1).1).1).2, (nx_le (nx_le (nx_le (nx_le h).1).1).1).2⟩
theorem fine_of {l : List UInt8} {a : Nat} {x : Sp} {r : List UInt8} (hl : a ≤ l.length) (hx : x.ok = true) (h : l.drop a = x.bytes ++ r) : fineS l (a, 0) := by
 have hN := nextS_bytes hl hx h
 have hk := (Sp.ok_iff x).1 hx
 have hlt := long_lt (l := l) (st := (a, 0)) hl
 obtain ⟨h1, h2⟩ := long_eq l (a, 0)
 rw [hN] at h1 h2
 dsimp only at h1 h2
 have s1 := hk.s1
 have s2 := hk.s2
 have e2 := hk.e2
 refine ⟨by rw [hN], ?_, by omega⟩
 by_cases hov : startS l (a, 0) + longS l (a, 0) < 9223372036854775808
 ·rw [sumW_small hov] at h2
  omega
 ·have := sumW_big hlt.2 hlt.1 (by omega)
  omega
theorem refG_bytes {l : List UInt8} : ∀ (r : List Sp) {a : Nat} {z : List UInt8}, a ≤ l.length → (∀ x ∈ r, Sp.ok x = true) → l.drop a = (r.map Sp.bytes).flatten ++ z → refG l r.length (a, 0) = some r
 | [], a, z, _, _, _ => rfl
 | x :: r, a, z, ha, hok, h => by
  have hx := hok x (by simp)
  rw [List.map_cons, List.flatten_cons, List.append_assoc] at h
  have hlen := congrArg List.length h
  rw [List.length_drop, List.length_append, List.length_append] at hlen
  have hN := nextS_bytes ha hx h
  rw [List.length_cons, refG, if_pos (fine_of ha hx h), hN]
  dsimp only
  rw [refG_bytes r (by omega) (fun y hy => hok y (by simp [hy])) (drop_more h)]
  rfl
theorem putB_iff {r : List Sp} {l : List UInt8} : putB r = (l, 0) ↔ (∀ x ∈ r, Sp.ok x = true) ∧ encL r = l := by
 unfold putB
 split
 ·rename_i h
  rw [List.all_eq_true] at h
  simp only [Prod.mk.injEq, and_true]
  exact ⟨fun e => ⟨h, e⟩, fun e => e.2⟩
 ·rename_i h
  constructor
  ·intro e
   simp at e
  ·rintro ⟨h1, _⟩
   exact absurd (List.all_eq_true.2 h1) h
theorem refP_is (l : List UInt8) : GetIs l (refP l).1 (refP l).2 := by
 have hbad : refP l = ([], 30) → GetIs l (refP l).1 (refP l).2 := by
  intro h
  rw [h]
  refine .inr ⟨rfl, rfl, fun m hm hok e => ?_⟩
  subst e
  have h0 : (encL m).drop 0 = digits m.length ++ (m.map Sp.bytes).flatten := rfl
  have h1 := nx_digits hm h0
  have g1 := drop_more h0
  have hl : (encL m).length = (digits m.length).length + (m.map Sp.bytes).flatten.length := by unfold encL; rw [List.length_append]
  unfold refP at h
  rw [h1] at h
  dsimp only at h
  unfold refT at h
  rw [refG_bytes m (z := []) (by omega) hok (by rw [g1, List.append_nil])] at h
  dsimp only at h
  rw [List.nil_append, if_pos (putB_iff.2 ⟨hok, rfl⟩)] at h
  simp at h
 cases hg : refG l (nx l (0, 0)).1 (nx l (0, 0)).2 with
 | none =>
  apply hbad
  unfold refP refT
  rw [hg]
 | some r =>
  by_cases hp : putB r = (l, 0)
  ·have : refP l = (r, 0) := by
    unfold refP refT
    rw [hg]
    dsimp only
    rw [List.nil_append, if_pos hp]
   rw [this]
   exact .inl ⟨rfl, (putB_iff.1 hp).1, (putB_iff.1 hp).2⟩
  ·apply hbad
   unfold refP refT
   rw [hg]
   dsimp only
   rw [List.nil_append, if_neg hp]
end Go.Proofs.YtionbmlicmibgaaGreatDoor
namespace Go.Proofs.YtionbmlicmibgaaGreatDoor
set_option linter.unusedVariables false
set_option linter.unusedSimpArgs false
open Go.RowKit
theorem fine_lt {l : List UInt8} {a e : Nat} (ha : a ≤ l.length) (h : fineS l (a, e)) : e = 0 ∧ a < (nextS l (a, e)).2.1 := by
 have h0 := h.1
 unfold nextS at h0 ⊢
 obtain ⟨n1, a1, e1, h1⟩ : ∃ n a' e', nx l (a, e) = (n, a', e') := ⟨_, _, _, rfl⟩
 rw [h1] at h0 ⊢; dsimp only at h0 ⊢
 obtain ⟨n2, a2, e2, h2⟩ : ∃ n a e, nx l (a1, e1) = (n, a, e) := ⟨_, _, _, rfl⟩
 rw [h2] at h0 ⊢; dsimp only at h0 ⊢
 obtain ⟨n3, a3, e3, h3⟩ : ∃ n a e, nx l (a2, e2) = (n, a, e) := ⟨_, _, _, rfl⟩
 rw [h3] at h0 ⊢; dsimp only at h0 ⊢
 obtain ⟨n4, a4, e4, h4⟩ : ∃ n a e, nx l (a3, e3) = (n, a, e) := ⟨_, _, _, rfl⟩
 rw [h4] at h0 ⊢; dsimp only at h0 ⊢
 obtain ⟨n5, a5, e5, h5⟩ : ∃ n a e, nx l (a4, e4) = (n, a, e) := ⟨_, _, _, rfl⟩
 rw [h5] at h0 ⊢; dsimp only at h0 ⊢
 obtain ⟨x6, a6, e6, h6⟩ : ∃ n a e, tx l 32 (a5, e5) = (n, a, e) := ⟨_, _, _, rfl⟩
 rw [h6] at h0 ⊢; dsimp only at h0 ⊢
 subst h0
 have keep : ∀ {st : Nat × Nat} {n a' : Nat}, nx l st = (n, a', 0) → st.2 = 0 := fun {st n a'} hh => by
  by_cases hz : st.2 = 0
  ·exact hz
  ·unfold nx at hh
   rw [if_pos hz] at hh
   simp only [Prod.mk.injEq] at hh
   exact absurd hh.2.2 hz
 have E5 : e5 = 0 := by
  by_cases hz : e5 = 0
  ·exact hz
  ·unfold tx at h6
   rw [if_pos hz] at h6
   simp only [Prod.mk.injEq] at h6
   exact absurd h6.2.2 hz
 subst E5
 obtain rfl : e4 = 0 := keep h5
 obtain rfl : e3 = 0 := keep h4
 obtain rfl : e2 = 0 := keep h3
 obtain rfl : e1 = 0 := keep h2
 obtain rfl : e = 0 := keep h1
 obtain ⟨-, b1, c1, d1, -⟩ := nx_form h1 ha
 obtain ⟨-, b2, c2, -, -⟩ := nx_form h2 c1
 obtain ⟨-, b3, c3, -, -⟩ := nx_form h3 c2
 obtain ⟨-, b4, c4, -, -⟩ := nx_form h4 c3
 obtain ⟨-, b5, c5, -, -⟩ := nx_form h5 c4
 obtain ⟨-, b6, c6, -, -⟩ := tx_form h6 c5
 dsimp only at *
 refine ⟨rfl, ?_⟩
 have := congrArg List.length d1
 have hp := digits_pos n1
 rw [List.length_drop, List.length_append, List.length_drop] at this
 omega
theorem bt {w a b : World} (h : Below w.heap.size w a) (h' : Below a.heap.size a b) : Below w.heap.size w b := h.trans (h'.mono h.size)
theorem row_keepS {B : Nat} {w w' : World} {v : Value} {l : List Sp} {c : Nat} (h : OwnS B w v l) (hg : w.grownBy w' (some c)) (hne : ∀ k, v.ownBlock = some k → k ≠ c) : OwnS B w' v l :=
 h.grown hg (by
  cases hob : v.ownBlock with
  | none => exact .inl rfl
  | some k => exact .inr fun e => by injection e with e; exact hne k hob e)
theorem Sr.grownB {w w' : World} {g b : Nat} {v : Value} {a E : Nat} (h : Sr w g v a E) (hg : w.grownBy w' (some b)) (hne : g ≠ b) : Sr w' g v a E := by
 unfold Sr at h ⊢
 rw [hg.block g (lt_of_heap h) (by intro e; injection e with e; exact hne e)]
 exact h
set_option maxRecDepth 200000 in
set_option maxHeartbeats 4000000 in
theorem refGet_any {w : World} {v : Value} {l : List UInt8} (hv : By w v l) (hl : l.length ≤ 65536) {R : List Sp} {E : Nat} (hR : refP l = (R, E)) :
  Calls Tryz.prog 71 #[v] w fun e w' => ∃ v', e = .returned (.tuple #[v', .int .i64 (E : Int)]) ∧ OwnS w.heap.size w' v' R ∧ Below w.heap.size w w' := by
 obtain ⟨q1, m1, c1, rfl⟩ := hv.sl
 have HM1 := hide hv.len.1
 have HR := hide hR
 have hb0 : ∀ k, (Value.slice q1 m1 c1).ownBlock = some k → l ≠ [] → k < w.heap.size := fun k hk hne => by
  obtain ⟨p', c', e2, _, _, _, hc⟩ := hv
  injection e2 with e2
  subst e2
  cases hl : l with
  | nil => exact absurd hl hne
  | cons y r =>
   cases q1 with
   | none => cases hk
   | some ad =>
    simp only [Value.ownBlock, Option.some.injEq] at hk
    have := lt_of_cell (hc ad rfl 0 y (by rw [hl]; rfl))
    rw [block_add] at this
    omega
 have HBK := hide hb0
 obtain ⟨g, hg⟩ : ∃ g, w.heap.size = g := ⟨_, rfl⟩
 obtain ⟨X, hX⟩ : ∃ X, w.alloc (.cells #[.slice q1 m1 c1, .int .i64 0, .int .i64 0] 121) = X := ⟨_, rfl⟩
 have hS : Sr X g (.slice q1 m1 c1) 0 0 := by rw [← hX, ← hg]; exact heap_alloc_new w _
 have HS := hide hS
 have HBY := hide (show By X (.slice q1 m1 c1) l by rw [← hX]; exact hv.alloc _)
 have HB := hide (show Below w.heap.size w X by rw [← hX]; exact (Below.refl _ _).alloc (Nat.le_refl _) _)
 have HNE := hide (show l = [] ∨ ∀ k, (Value.slice q1 m1 c1).ownBlock = some k → some g ≠ some k by
  by_cases hz : l = []
  ·exact .inl hz
  ·refine .inr fun k hk e => ?_
   injection e with e
   have := HBK.out k hk hz
   omega)
 have HG := hide hg
 have HGX := hide (show g < X.heap.size by rw [← hX, ← hg]; simp)
 have HXW := hide (show X.heap.size = g + 1 by rw [← hX, ← hg]; simp)
 clear hv hR hb0 hS
 obtain ⟨N, a0, E0, hN⟩ : ∃ n a e, nx l (0, 0) = (n, a, e) := ⟨_, _, _, rfl⟩
 have hNl := (nx_le (l := l) (st := (0, 0)) (Nat.zero_le _))
 rw [hN] at hNl
 dsimp only at hNl
 have HNN := hide hN
 clear hN
 go_enter Tryz.func71, Tryz.ntmps71
 go_wp2_with fail
 clear hX hg
 refine (refScanNumber_any HS.out HBY.out (Nat.zero_le _) (show _ = (N, a0, E0) from HNN.out)).mono ?_
 rintro e2 w2 ⟨rfl, hs2, hg2⟩
 have HS2 := hide hs2
 have HG2 := hide hg2
 clear hs2 hg2
 go_wp2_with fail
 have hstart : Hid (Sr w2 g (.slice q1 m1 c1) a0 E0 ∧ By w2 (.slice q1 m1 c1) l ∧ OwnS X.heap.size w2 (.slice none 0 0) [] ∧ X.grownBy w2 (some g) ∧ a0 ≤ l.length ∧ ([] : List Sp).length ≤ a0 ∧ refT l [] (N - 0) (a0, E0) = (R, E) ∧ ∀ x ∈ ([] : List Sp), x.n.size ≤ 1100000) := hide ⟨HS2.out, HBY.out.grown HG2.out HNE.out, OwnS.nil _ _, HG2.out, hNl.1, Nat.zero_le _, by rw [Nat.sub_zero, ← HR.out]; unfold refP; rw [HNN.out], fun x hx => by cases hx⟩
 go_loopw [6, 7, 8, 9] (fun v i _ _ wr => ∃ (j : Nat) (r : List Sp) (a e : Nat), j ≤ N ∧ i = .int .i64 j ∧ Hid (Sr wr g (.slice q1 m1 c1) a e ∧ By wr (.slice q1 m1 c1) l ∧ OwnS X.heap.size wr v r ∧ X.grownBy wr (some g) ∧ a ≤ l.length ∧ r.length ≤ a ∧ refT l r (N - j) (a, e) = (R, E) ∧ ∀ x ∈ r, x.n.size ≤ 1100000)) (fun _ i _ _ _ => N - (intOf i).toNat)
 case atStart => exact ⟨0, [], a0, E0, Nat.zero_le _, rfl, hstart⟩
 case round =>
  obtain ⟨j, r, a, e, hj, rfl, H⟩ := hrel
  clear hstart
  by_cases hlt : (j : Int) < (N : Int)
  ·have hal := H.out.2.2.2.2.1
   have hsplit : N - j = (N - (j + 1)) + 1 := by omega
   have HSP := hide hsplit
   clear hsplit
   obtain ⟨n1, a1, E1, h1⟩ : ∃ n a' E, nx l (a, e) = (n, a', E) := ⟨_, _, _, rfl⟩
   obtain ⟨n2, a2, E2, h2⟩ : ∃ n a E, nx l (a1, E1) = (n, a, E) := ⟨_, _, _, rfl⟩
   obtain ⟨n3, a3, E3, h3⟩ : ∃ n a E, nx l (a2, E2) = (n, a, E) := ⟨_, _, _, rfl⟩
   obtain ⟨n4, a4, E4, h4⟩ : ∃ n a E, nx l (a3, E3) = (n, a, E) := ⟨_, _, _, rfl⟩
   obtain ⟨n5, a5, E5, h5⟩ : ∃ n a E, nx l (a4, E4) = (n, a, E) := ⟨_, _, _, rfl⟩
   obtain ⟨T6, a6, E6, h6⟩ : ∃ n a E, tx l 32 (a5, E5) = (n, a, E) := ⟨_, _, _, rfl⟩
   have hnx : nextS l (a, e) = (⟨n1, n2, n3, n4, sumW n4 n5, ⟨T6.toArray⟩⟩, a6, E6) := by
    unfold nextS
    rw [h1]; dsimp only
    rw [h2]; dsimp only
    rw [h3]; dsimp only
    rw [h4]; dsimp only
    rw [h5]; dsimp only
    rw [h6]
   have hlong : longS l (a, e) = n5 ∧ startS l (a, e) = n4 := by
    unfold longS startS
    rw [h1]; dsimp only
    rw [h2]; dsimp only
    rw [h3]; dsimp only
    rw [h4]; dsimp only
    rw [h5]
    exact ⟨rfl, rfl⟩
   have hlt9 := long_lt (l := l) (st := (a, e)) hal
   rw [hlong.1, hlong.2] at hlt9
   have hm : m1 = l.length := HM1.out
   have l0 : a ≤ m1 := by omega
   have l1 : a1 ≤ m1 := by have := (nx_le (l := l) (st := (a, e)) (by dsimp only; omega)).1; rw [h1] at this; dsimp only at this; omega
   have l2 : a2 ≤ m1 := by have := (nx_le (l := l) (st := (a1, E1)) (by dsimp only; omega)).1; rw [h2] at this; dsimp only at this; omega
   have l3 : a3 ≤ m1 := by have := (nx_le (l := l) (st := (a2, E2)) (by dsimp only; omega)).1; rw [h3] at this; dsimp only at this; omega
   have l4 : a4 ≤ m1 := by have := (nx_le (l := l) (st := (a3, E3)) (by dsimp only; omega)).1; rw [h4] at this; dsimp only at this; omega
   have l5 : a5 ≤ m1 := by have := (nx_le (l := l) (st := (a4, E4)) (by dsimp only; omega)).1; rw [h5] at this; dsimp only at this; omega
   have l6 : a6 ≤ l.length := by have := tx_le (l := l) (most := 32) (st := (a5, E5)) (by dsimp only; omega); rw [h6] at this; exact this
   have hfl : fineS l (a, e) → e = 0 ∧ a < a6 := fun hf => by
    have := fine_lt hal hf
    rw [hnx] at this
    exact this
   have HF := hide (And.intro hnx (And.intro hlong (And.intro hfl (And.intro l6 hlt9))))
   have HH := hide (And.intro h1 (And.intro h2 (And.intro h3 (And.intro h4 (And.intro h5 h6)))))
   clear h1 h2 h3 h4 h5 h6 hnx hlong hlt9 hfl hal hm
   go_wp2_with fail
   obtain ⟨b, hb⟩ : ∃ b, wr.heap.size = b := ⟨_, rfl⟩
   have hgr := H.out.2.2.2.1
   have hXb : X.heap.size ≤ b := by rw [← hb]; exact hgr.size
   have HNEB := hide (show l = [] ∨ ∀ k, (Value.slice q1 m1 c1).ownBlock = some k → some b ≠ some k by
    by_cases hz : l = []
    ·exact .inl hz
    ·refine .inr fun k hk e => ?_
     injection e with e
     have := HBK.out k hk hz
     have h9 := HXW.out
     have h8 := HG.out
     omega)
   have HGB := hide (show g ≠ b by have := HGX.out; omega)
   have HXB := hide hXb
   obtain ⟨Y0, hY0⟩ : ∃ Y, wr.alloc (.cells #[.int .i64 0, .int .i64 0, .int .i64 0, .int .i64 0, .int .i64 0, .string ⟨#[]⟩] 30) = Y := ⟨_, rfl⟩
   have hyB : Below wr.heap.size wr Y0 := by rw [← hY0]; exact (Below.refl _ _).alloc (Nat.le_refl _) _
   have hyh : Y0.heap[b]? = some (.cells #[.int .i64 0, .int .i64 0, .int .i64 0, .int .i64 0, .int .i64 0, .string ⟨#[]⟩] 30 (0, 0)) := by rw [← hY0, ← hb]; exact heap_alloc_new wr _
   have HS0 := hide (And.intro (show Sr Y0 g (.slice q1 m1 c1) a e by have h1 := H.out.1; unfold Sr at h1 ⊢; rw [hyB.block g (lt_of_heap h1)]; exact h1) (H.out.2.1.below hyB))
   have HGR0 := hide (show X.grownBy Y0 (some g) from gtrans hgr ⟨hyB.os, hyB.tape, hyB.output, hyB.size, fun k hk _ => hyB.block k hk⟩)
   have HZ0 := hide hyh
   have HROW0 := hide (H.out.2.2.1.below hyB)
   have HBW := hide hb
   have HRG := hide (show ∀ k, u6.ownBlock = some k → k ≠ g from fun k hk e => by have := (H.out.2.2.1.lt k hk).1; have := HGX.out; omega)
   have HRB := hide (show ∀ k, u6.ownBlock = some k → k ≠ b from fun k hk e => by have := (H.out.2.2.1.lt k hk).2; omega)
   rw [hY0, hb]
   clear hgr hXb hyB hyh hY0 hb
   refine (refScanNumber_any HS0.out.1 HS0.out.2 l0 (show _ = (n1, a1, E1) from HH.out.1)).mono ?_
   rintro f1 V1 ⟨rfl, hs, hg⟩
   have hb' := (hg.block b (lt_of_heap HZ0.out) (by have := HGB.out; intro e; injection e with e; exact this e.symm)).trans HZ0.out
   have fr := frozen_of_row V1 b 0 _ 30 hb'
   have zc : V1.cell? ⟨b, 0, none⟩ = some (.int .i64 0) := cell_of_row V1 b 0 _ 30 (0, 0) hb'
   obtain ⟨Y1, hY⟩ : ∃ Y, V1.setCell ⟨b, 0, none⟩ (.int .i64 (n1 : Int)) = Y := ⟨_, rfl⟩
   have hyh : Y1.heap[b]? = some (.cells #[.int .i64 (n1 : Int), .int .i64 0, .int .i64 0, .int .i64 0, .int .i64 0, .string ⟨#[]⟩] 30 (0, 0)) := by rw [← hY, heap_setCell_same V1 b 0 _ 30 (.int .i64 (n1 : Int)) hb']; rfl
   have hgy : V1.grownBy Y1 (some b) := by rw [← hY]; exact grown_set _ _ _ _
   have HS1 := hide (And.intro (hs.grownB hgy HGB.out) ((HS0.out.2.grown hg HNE.out).grown hgy HNEB.out))
   have HGR1 := hide (show X.grownBy Y1 (some g) by rw [← hY]; exact grown_set_new (gtrans HGR0.out hg) HXB.out)
   have HROW1 := hide (row_keepS (row_keepS HROW0.out hg HRG.out) hgy HRB.out)
   have HZ1 := hide hyh
   clear hs hg hb' hyh hgy
   go_wp2_with fail
   refine (refScanNumber_any HS1.out.1 HS1.out.2 l1 (show _ = (n2, a2, E2) from HH.out.2.1)).mono ?_
   rintro f2 V2 ⟨rfl, hs, hg⟩
   have hb' := (hg.block b (lt_of_heap HZ1.out) (by have := HGB.out; intro e; injection e with e; exact this e.symm)).trans HZ1.out
   have fr := frozen_of_row V2 b 1 _ 30 hb'
   have zc : V2.cell? ⟨b, 1, none⟩ = some (.int .i64 0) := cell_of_row V2 b 1 _ 30 (0, 0) hb'
   obtain ⟨Y2, hY⟩ : ∃ Y, V2.setCell ⟨b, 1, none⟩ (.int .i64 (n2 : Int)) = Y := ⟨_, rfl⟩
   have hyh : Y2.heap[b]? = some (.cells #[.int .i64 (n1 : Int), .int .i64 (n2 : Int), .int .i64 0, .int .i64 0, .int .i64 0, .string ⟨#[]⟩] 30 (0, 0)) := by rw [← hY, heap_setCell_same V2 b 1 _ 30 (.int .i64 (n2 : Int)) hb']; rfl
   have hgy : V2.grownBy Y2 (some b) := by rw [← hY]; exact grown_set _ _ _ _
   have HS2 := hide (And.intro (hs.grownB hgy HGB.out) ((HS1.out.2.grown hg HNE.out).grown hgy HNEB.out))
   have HGR2 := hide (show X.grownBy Y2 (some g) by rw [← hY]; exact grown_set_new (gtrans HGR1.out hg) HXB.out)
   have HROW2 := hide (row_keepS (row_keepS HROW1.out hg HRG.out) hgy HRB.out)
   have HZ2 := hide hyh
   clear hs hg hb' hyh hgy
   go_wp2_with fail
   refine (refScanNumber_any HS2.out.1 HS2.out.2 l2 (show _ = (n3, a3, E3) from HH.out.2.2.1)).mono ?_
   rintro f3 V3 ⟨rfl, hs, hg⟩
   have hb' := (hg.block b (lt_of_heap HZ2.out) (by have := HGB.out; intro e; injection e with e; exact this e.symm)).trans HZ2.out
   have fr := frozen_of_row V3 b 2 _ 30 hb'
   have zc : V3.cell? ⟨b, 2, none⟩ = some (.int .i64 0) := cell_of_row V3 b 2 _ 30 (0, 0) hb'
   obtain ⟨Y3, hY⟩ : ∃ Y, V3.setCell ⟨b, 2, none⟩ (.int .i64 (n3 : Int)) = Y := ⟨_, rfl⟩
   have hyh : Y3.heap[b]? = some (.cells #[.int .i64 (n1 : Int), .int .i64 (n2 : Int), .int .i64 (n3 : Int), .int .i64 0, .int .i64 0, .string ⟨#[]⟩] 30 (0, 0)) := by rw [← hY, heap_setCell_same V3 b 2 _ 30 (.int .i64 (n3 : Int)) hb']; rfl
   have hgy : V3.grownBy Y3 (some b) := by rw [← hY]; exact grown_set _ _ _ _
   have HS3 := hide (And.intro (hs.grownB hgy HGB.out) ((HS2.out.2.grown hg HNE.out).grown hgy HNEB.out))
   have HGR3 := hide (show X.grownBy Y3 (some g) by rw [← hY]; exact grown_set_new (gtrans HGR2.out hg) HXB.out)
   have HROW3 := hide (row_keepS (row_keepS HROW2.out hg HRG.out) hgy HRB.out)
   have HZ3 := hide hyh
   clear hs hg hb' hyh hgy
   go_wp2_with fail
   refine (refScanNumber_any HS3.out.1 HS3.out.2 l3 (show _ = (n4, a4, E4) from HH.out.2.2.2.1)).mono ?_
   rintro f4 V4 ⟨rfl, hs, hg⟩
   have hb' := (hg.block b (lt_of_heap HZ3.out) (by have := HGB.out; intro e; injection e with e; exact this e.symm)).trans HZ3.out
   have fr := frozen_of_row V4 b 3 _ 30 hb'
   have zc : V4.cell? ⟨b, 3, none⟩ = some (.int .i64 0) := cell_of_row V4 b 3 _ 30 (0, 0) hb'
   obtain ⟨Y4, hY⟩ : ∃ Y, V4.setCell ⟨b, 3, none⟩ (.int .i64 (n4 : Int)) = Y := ⟨_, rfl⟩
   have hyh : Y4.heap[b]? = some (.cells #[.int .i64 (n1 : Int), .int .i64 (n2 : Int), .int .i64 (n3 : Int), .int .i64 (n4 : Int), .int .i64 0, .string ⟨#[]⟩] 30 (0, 0)) := by rw [← hY, heap_setCell_same V4 b 3 _ 30 (.int .i64 (n4 : Int)) hb']; rfl
   have hgy : V4.grownBy Y4 (some b) := by rw [← hY]; exact grown_set _ _ _ _
   have HS4 := hide (And.intro (hs.grownB hgy HGB.out) ((HS3.out.2.grown hg HNE.out).grown hgy HNEB.out))
   have HGR4 := hide (show X.grownBy Y4 (some g) by rw [← hY]; exact grown_set_new (gtrans HGR3.out hg) HXB.out)
   have HROW4 := hide (row_keepS (row_keepS HROW3.out hg HRG.out) hgy HRB.out)
   have HZ4 := hide hyh
   clear hs hg hb' hyh hgy
   go_wp2_with fail
   refine (refScanNumber_any HS4.out.1 HS4.out.2 l4 (show _ = (n5, a5, E5) from HH.out.2.2.2.2.1)).mono ?_
   rintro f5 V5 ⟨rfl, hs, hg⟩
   have hb' := (hg.block b (lt_of_heap HZ4.out) (by have := HGB.out; intro e; injection e with e; exact this e.symm)).trans HZ4.out
   have HS5 := hide (And.intro hs (HS4.out.2.grown hg HNE.out))
   have HGR5 := hide (show X.grownBy V5 (some g) from gtrans HGR4.out hg)
   have HROW5 := hide (row_keepS HROW4.out hg HRG.out)
   have HZ5 := hide hb'
   clear hs hg hb' fr zc
   go_wp2_with fail
   refine (refScanText_any HS5.out.1 HS5.out.2 HNE.out l5 32 32 (by decide) (T := T6) (A := a6) (E := E6) (by have := HH.out.2.2.2.2.2; rw [tx_text] at this; exact this)).mono ?_
   rintro f6 V6 ⟨rfl, hs, hg⟩
   have hb' := (hg.block b (lt_of_heap HZ5.out) (by have := HGB.out; intro e; injection e with e; exact this e.symm)).trans HZ5.out
   have fr := frozen_of_row V6 b 5 _ 30 hb'
   have zc : V6.cell? ⟨b, 5, none⟩ = some (.string ⟨#[]⟩) := cell_of_row V6 b 5 _ 30 (0, 0) hb'
   obtain ⟨Y6, hY⟩ : ∃ Y, V6.setCell ⟨b, 5, none⟩ (.string (str T6)) = Y := ⟨_, rfl⟩
   have hyh : Y6.heap[b]? = some (.cells #[.int .i64 (n1 : Int), .int .i64 (n2 : Int), .int .i64 (n3 : Int), .int .i64 (n4 : Int), .int .i64 0, .string (str T6)] 30 (0, 0)) := by rw [← hY, heap_setCell_same V6 b 5 _ 30 (.string (str T6)) hb']; rfl
   have hgy : V6.grownBy Y6 (some b) := by rw [← hY]; exact grown_set _ _ _ _
   have hs6 := hs.grownB hgy HGB.out
   have ce : Y6.cell? ⟨g, 2, none⟩ = some (.int .i64 (E6 : Int)) := hs6.c2
   have cs : Y6.cell? ⟨b, 3, none⟩ = some (.int .i64 (n4 : Int)) := cell_of_row Y6 b 3 _ 30 (0, 0) hyh
   have HS6 := hide (And.intro hs6 ((HS5.out.2.grown hg HNE.out).grown hgy HNEB.out))
   have HGR6 := hide (show X.grownBy Y6 (some g) by rw [← hY]; exact grown_set_new (gtrans HGR5.out hg) HXB.out)
   have HROW6 := hide (row_keepS (row_keepS HROW5.out hg HRG.out) hgy HRB.out)
   have HZ6 := hide hyh
   clear hs hg hb' hyh hgy hs6
   have hbad : ¬ fineS l (a, e) → R = [] ∧ E = 30 := fun hf => by
    have := H.out.2.2.2.2.2.2.1
    rw [HSP.out, refT_bad hf] at this
    simp only [Prod.mk.injEq] at this
    exact ⟨this.1.symm, this.2.symm⟩
   have HBAD := hide hbad
   have HBW6 := hide (show Below w.heap.size w Y6 from HB.out.grown HGR6.out HB.out.size (fun k hk => by injection hk with hk; have := HG.out; omega))
   clear hbad
   by_cases hE6 : E6 ≠ 0
   ·obtain ⟨rfl, rfl⟩ := HBAD.out (fun hf => hE6 (by have := hf.1; rw [HF.out.1] at this; exact this))
    have g1 : ((E6 : Int) != 0) = true := by simp; omega
    clear hE6
    go_wp2
    go_ret2
    exact ⟨_, rfl, OwnS.nil _ _, HBW6.out⟩
   ·obtain rfl : E6 = 0 := by omega
    clear hE6
    by_cases hn5 : (1099511627776 : Int) < (n5 : Int)
    ·obtain ⟨rfl, rfl⟩ := HBAD.out (fun hf => by have := hf.2.1; rw [HF.out.2.1.1] at this; omega)
     go_wp2
     go_ret2
     exact ⟨_, rfl, OwnS.nil _ _, HBW6.out⟩
    ·by_cases hn4 : (1099511627776 : Int) < (n4 : Int)
     ·obtain ⟨rfl, rfl⟩ := HBAD.out (fun hf => by have := hf.2.2; rw [HF.out.2.1.2] at this; omega)
      go_wp2
      go_ret2
      exact ⟨_, rfl, OwnS.nil _ _, HBW6.out⟩
     ·have hfine : fineS l (a, e) := ⟨by rw [HF.out.1], by rw [HF.out.2.1.1]; omega, by rw [HF.out.2.1.2]; omega⟩
      have hT := H.out.2.2.2.2.2.2.1
      rw [HSP.out, refT_ok hfine, HF.out.1] at hT
      have hsum : sumW n4 n5 = (n4 : Int) + (n5 : Int) := sumW_small (by omega)
      dsimp only at hT
      rw [hsum, ← str_eq] at hT
      have HT := hide hT
      have HFI := hide (HF.out.2.2.1 hfine)
      have h45 : (n4 : Int) + (n5 : Int) ≤ 9223372036854775807 := by omega
      have fr := frozen_of_row Y6 b 4 _ 30 HZ6.out
      have zc : Y6.cell? ⟨b, 4, none⟩ = some (.int .i64 0) := cell_of_row Y6 b 4 _ 30 (0, 0) HZ6.out
      obtain ⟨Y7, hY⟩ : ∃ Y, Y6.setCell ⟨b, 4, none⟩ (.int .i64 ((n4 : Int) + (n5 : Int))) = Y := ⟨_, rfl⟩
      have hyh : Y7.heap[b]? = some (.cells #[.int .i64 (n1 : Int), .int .i64 (n2 : Int), .int .i64 (n3 : Int), .int .i64 (n4 : Int), .int .i64 ((n4 : Int) + (n5 : Int)), .string (str T6)] 30 (0, 0)) := by rw [← hY, heap_setCell_same Y6 b 4 _ 30 (.int .i64 ((n4 : Int) + (n5 : Int))) HZ6.out]; rfl
      have hgy : Y6.grownBy Y7 (some b) := by rw [← hY]; exact grown_set _ _ _ _
      have d0 : Y7.cell? ⟨b, 0, none⟩ = some (.int .i64 (n1 : Int)) := cell_of_row Y7 b 0 _ 30 (0, 0) hyh
      have d1 : Y7.cell? ⟨b, 1, none⟩ = some (.int .i64 (n2 : Int)) := cell_of_row Y7 b 1 _ 30 (0, 0) hyh
      have d2 : Y7.cell? ⟨b, 2, none⟩ = some (.int .i64 (n3 : Int)) := cell_of_row Y7 b 2 _ 30 (0, 0) hyh
      have d3 : Y7.cell? ⟨b, 3, none⟩ = some (.int .i64 (n4 : Int)) := cell_of_row Y7 b 3 _ 30 (0, 0) hyh
      have d4 : Y7.cell? ⟨b, 4, none⟩ = some (.int .i64 ((n4 : Int) + (n5 : Int))) := cell_of_row Y7 b 4 _ 30 (0, 0) hyh
      have d5 : Y7.cell? ⟨b, 5, none⟩ = some (.string (str T6)) := cell_of_row Y7 b 5 _ 30 (0, 0) hyh
      have HS7 := hide (And.intro (HS6.out.1.grownB hgy HGB.out) (HS6.out.2.grown hgy HNEB.out))
      have HGR7 := hide (show X.grownBy Y7 (some g) by rw [← hY]; exact grown_set_new HGR6.out HXB.out)
      have HROW7 := hide (row_keepS HROW6.out hgy HRB.out)
      have HSZ7 := hide HGR7.out.size
      have hrl : r.length ≤ 1100000 := by have := H.out.2.2.2.2.1; have := H.out.2.2.2.2.2.1; omega
      have HRL := hide hrl
      clear hyh hgy hfine hT hsum hrl
      go_wp2_with (at_builtin; go_must (refine wpList_push (v := u6) rfl _ _ rfl rfl ⟨n1, n2, n3, n4, (n4 : Int) + (n5 : Int), str T6⟩ rfl rfl HROW7.out HSZ7.out HRL.out ?_); intro v8 w8 ho8 hb8 hg8)
      go_roundw
      case rel =>
       have hold : ∀ k, u6.ownBlock = some k → X.heap.size ≤ k := fun k hk => (HROW7.out.lt k hk).1
       refine ⟨j + 1, r ++ [⟨n1, n2, n3, n4, (n4 : Int) + (n5 : Int), str T6⟩], a6, 0, by omega, by go_num, hide ⟨?_, ?_, ho8, ?_, HF.out.2.2.2.1, ?_, HT.out, ?_⟩⟩
       ·have h1 := HS7.out.1
        unfold Sr at h1 ⊢
        rw [hg8.block g (lt_of_heap h1) (fun e => by have := hold g e.symm; have := HGX.out; omega)]
        exact h1
       ·refine HS7.out.2.grown hg8 ?_
        by_cases hz : l = []
        ·exact .inl hz
        ·refine .inr fun k hk e => ?_
         have h1 := hold k e
         have h2 := HBK.out k hk hz
         have h3 := HG.out
         have h4 := HGX.out
         omega
       ·exact ⟨hg8.os.trans HGR7.out.os, hg8.tape.trans HGR7.out.tape, hg8.output.trans HGR7.out.output, Nat.le_trans HGR7.out.size hg8.size, fun k hk hr => (hg8.block k (Nat.lt_of_lt_of_le hk HGR7.out.size) (fun e => by have := hold k e.symm; omega)).trans (HGR7.out.block k hk hr)⟩
       ·have h1 := HFI.out.2
        have h2 := H.out.2.2.2.2.2.1
        rw [List.length_append]
        simp only [List.length_cons, List.length_nil]
        omega
       ·intro x hx
        rcases List.mem_append.1 hx with hx | hx
        ·exact H.out.2.2.2.2.2.2.2 x hx
        ·simp only [List.mem_singleton] at hx
         subst hx
         have := nextS_name l (a, e)
         rw [HF.out.1, ← str_eq] at this
         exact this
      case measure => simp [intOf]; omega
  ·have hjN : j = N := by omega
   subst hjN
   have hend := H.out.2.2.2.2.2.2.1
   rw [Nat.sub_self, refT_end] at hend
   have HE := hide hend
   obtain ⟨p6, n6, c6, rfl⟩ := H.out.2.2.1.sps.sl
   have hrn := H.out.2.2.1.sps.len.1
   have hrl := H.out.2.2.2.2.2.1
   have hal := H.out.2.2.2.2.1
   have hnames := (fun x hx => H.out.2.2.2.2.2.2.2 x hx)
   obtain ⟨B, F, hP⟩ : ∃ B F, putB r = (B, F) := ⟨_, _, rfl⟩
   have HP := hide hP
   have HPUT := hide (refPut_any H.out.2.2.1.sps (by omega) hnames hP)
   have HBWr := hide (show Below w.heap.size w wr from HB.out.grown H.out.2.2.2.1 HB.out.size (fun k hk => by injection hk with hk; have := HG.out; omega))
   have hrow := H.out.2.2.1
   have HROW := hide hrow
   clear hend hrn hrl hal hnames hP hrow
   go_wp2_with fail
   refine HPUT.out.mono ?_
   rintro f5 w5 ⟨v5, rfl, ho5, hb5⟩
   obtain ⟨q5, m5, c5, rfl⟩ := ho5.by_.sl
   have HO5 := hide ho5.by_
   have HB5 := hide hb5
   have HBY5 := hide (H.out.2.1.below hb5)
   have HROW5 := hide (show OwnS w.heap.size w5 (.slice p6 n6 c6) r from (HROW.out.below hb5).mono HB.out.size)
   clear ho5 hb5
   by_cases hF : F ≠ 0
   ·have hRE : R = [] ∧ E = 30 := by
     have := HE.out
     rw [if_neg (by rw [HP.out]; intro e; simp only [Prod.mk.injEq] at e; exact hF e.2)] at this
     simp only [Prod.mk.injEq] at this
     exact ⟨this.1.symm, this.2.symm⟩
    obtain ⟨rfl, rfl⟩ := hRE
    have g1 : ((F : Int) != 0) = true := by simp; omega
    clear hF
    go_wp2
    go_ret2
    exact ⟨_, rfl, OwnS.nil _ _, bt HBWr.out HB5.out⟩
   ·obtain rfl : F = 0 := by omega
    clear hF
    have hc1 := conv_at HO5.out
    have hc2 := conv_at HBY5.out
    have hsb : ((str B).toList == (str l).toList) = decide (B = l) := str_beq B l
    by_cases hBl : B = l
    ·have hRE : R = r ∧ E = 0 := by
      have := HE.out
      rw [if_pos (by rw [HP.out, hBl])] at this
      simp only [Prod.mk.injEq] at this
      exact ⟨this.1.symm, this.2.symm⟩
     obtain ⟨rfl, rfl⟩ := hRE
     rw [decide_eq_true hBl] at hsb
     clear hBl
     go_wp2
     go_ret2
     exact ⟨_, rfl, HROW5.out, bt HBWr.out HB5.out⟩
    ·have hRE : R = [] ∧ E = 30 := by
      have := HE.out
      rw [if_neg (by rw [HP.out]; intro e; simp only [Prod.mk.injEq] at e; exact hBl e.1)] at this
      simp only [Prod.mk.injEq] at this
      exact ⟨this.1.symm, this.2.symm⟩
     obtain ⟨rfl, rfl⟩ := hRE
     rw [decide_eq_false hBl] at hsb
     clear hBl
     go_wp2
     go_ret2
     exact ⟨_, rfl, OwnS.nil _ _, bt HBWr.out HB5.out⟩
end Go.Proofs.YtionbmlicmibgaaGreatDoor
