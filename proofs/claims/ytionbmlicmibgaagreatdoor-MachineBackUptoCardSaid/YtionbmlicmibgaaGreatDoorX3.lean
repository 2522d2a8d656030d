import Derived.Test.YtionbmlicmibgaaGreatDoorX2
import Derived.Test.YtionbmlicmibgaaGreatDoorS14
import Derived.Test.YtionbmlicmibgaaGreatDoorS15
namespace Go.Proofs.YtionbmlicmibgaaGreatDoor
set_option linter.unusedVariables false
set_option linter.unusedSimpArgs false
def nextT (l : List UInt8) (st : Nat × Nat) : St × Nat × Nat :=
 let r1 := nx l st
 let r2 := nx l r1.2
 let r3 := nx l r2.2
 let r4 := nx l r3.2
 let r5 := nx l r4.2
 let r6 := nx l r5.2
 let r7 := nx l r6.2
 let r8 := nx l r7.2
 let r9 := nx l r8.2
 let r10 := nx l r9.2
 let r11 := nx l r10.2
 (⟨r1.1, r2.1, r3.1, ⟨r4.1, r5.1, r6.1, r7.1, r8.1, r9.1, r10.1, r11.1⟩⟩, r11.2)
theorem nextT_le {l : List UInt8} {st : Nat × Nat} (h : st.1 ≤ l.length) : (nextT l st).2.1 ≤ l.length := by
 unfold nextT
 dsimp only
 exact (nx_le (nx_le (nx_le (nx_le (nx_le (nx_le (nx_le (nx_le (nx_le (nx_le (nx_le h).1).1).1).1).1).1).1).1).1).1).1
theorem nextT_put {l : List UInt8} {a : Nat} {x : St} {r : List UInt8} (hx : x.ok = true) (h : l.drop a = bytesT x ++ r) : nextT l (a, 0) = (x, a + (bytesT x).length, 0) ∧ l.drop (a + (bytesT x).length) = r := by
 have hr := drop_more h
 have hb : ∀ n ∈ x.nums, 0 ≤ n ∧ n ≤ 1099511627776 := fun n hn => by
  have h2 : x.tell = true := by unfold St.ok at hx; simp at hx; exact hx.2
  exact n40_iff.1 (List.all_eq_true.1 h2 n hn)
 obtain ⟨n1, n2, n3, ⟨n4, n5, n6, n7, n8, n9, n10, n11⟩⟩ := x
 have b1 := hb n1 (by simp [St.nums])
 have b2 := hb n2 (by simp [St.nums])
 have b3 := hb n3 (by simp [St.nums])
 have b4 := hb n4 (by simp [St.nums])
 have b5 := hb n5 (by simp [St.nums])
 have b6 := hb n6 (by simp [St.nums])
 have b7 := hb n7 (by simp [St.nums])
 have b8 := hb n8 (by simp [St.nums])
 have b9 := hb n9 (by simp [St.nums])
 have b10 := hb n10 (by simp [St.nums])
 have b11 := hb n11 (by simp [St.nums])
 have hform : bytesT ⟨n1, n2, n3, ⟨n4, n5, n6, n7, n8, n9, n10, n11⟩⟩ = digits n1.toNat ++ (digits n2.toNat ++ (digits n3.toNat ++ (digits n4.toNat ++ (digits n5.toNat ++ (digits n6.toNat ++ (digits n7.toNat ++ (digits n8.toNat ++ (digits n9.toNat ++ (digits n10.toNat ++ (digits n11.toNat)))))))))) := by
  simp [bytesT, numsB, St.nums]
 refine ⟨?_, hr⟩
 rw [hform] at h ⊢
 simp only [List.append_assoc] at h
 have q1 := nx_digits (l := l) (a := a) (n := n1.toNat) (by omega) h
 replace h := drop_more h
 have q2 := nx_digits (l := l) (a := a + (digits n1.toNat).length) (n := n2.toNat) (by omega) h
 replace h := drop_more h
 have q3 := nx_digits (l := l) (a := a + (digits n1.toNat).length + (digits n2.toNat).length) (n := n3.toNat) (by omega) h
 replace h := drop_more h
 have q4 := nx_digits (l := l) (a := a + (digits n1.toNat).length + (digits n2.toNat).length + (digits n3.toNat).length) (n := n4.toNat) (by omega) h
 replace h := drop_more h
 have q5 := nx_digits (l := l) (a := a + (digits n1.toNat).length + (digits n2.toNat).length + (digits n3.toNat).length + (digits n4.toNat).length) (n := n5.toNat) (by omega) h
 replace h := drop_more h
 have q6 := nx_digits (l := l) (a := a + (digits n1.toNat).length + (digits n2.toNat).length + (digits n3.toNat).length + (digits n4.toNat).length + (digits n5.toNat).length) (n := n6.toNat) (by omega) h
 replace h := drop_more h
 have q7 := nx_digits (l := l) (a := a + (digits n1.toNat).length + (digits n2.toNat).length + (digits n3.toNat).length + (digits n4.toNat).length + (digits n5.toNat).length + (digits n6.toNat).length) (n := n7.toNat) (by omega) h
 replace h := drop_more h
 have q8 := nx_digits (l := l) (a := a + (digits n1.toNat).length + (digits n2.toNat).length + (digits n3.toNat).length + (digits n4.toNat).length + (digits n5.toNat).length + (digits n6.toNat).length + (digits n7.toNat).length) (n := n8.toNat) (by omega) h
 replace h := drop_more h
 have q9 := nx_digits (l := l) (a := a + (digits n1.toNat).length + (digits n2.toNat).length + (digits n3.toNat).length + (digits n4.toNat).length + (digits n5.toNat).length + (digits n6.toNat).length + (digits n7.toNat).length + (digits n8.toNat).length) (n := n9.toNat) (by omega) h
 replace h := drop_more h
 have q10 := nx_digits (l := l) (a := a + (digits n1.toNat).length + (digits n2.toNat).length + (digits n3.toNat).length + (digits n4.toNat).length + (digits n5.toNat).length + (digits n6.toNat).length + (digits n7.toNat).length + (digits n8.toNat).length + (digits n9.toNat).length) (n := n10.toNat) (by omega) h
 replace h := drop_more h
 have q11 := nx_digits (l := l) (a := a + (digits n1.toNat).length + (digits n2.toNat).length + (digits n3.toNat).length + (digits n4.toNat).length + (digits n5.toNat).length + (digits n6.toNat).length + (digits n7.toNat).length + (digits n8.toNat).length + (digits n9.toNat).length + (digits n10.toNat).length) (n := n11.toNat) (by omega) h
 replace h := drop_more h
 unfold nextT
 simp only [q1, q2, q3, q4, q5, q6, q7, q8, q9, q10, q11]
 refine Prod.ext ?_ (Prod.ext ?_ rfl)
 ·simp only [St.mk.injEq, Rp.mk.injEq]
  refine ⟨?_, ?_, ?_, ?_, ?_, ?_, ?_, ?_, ?_, ?_, ?_⟩
  all_goals omega
 ·simp only [List.length_append]
  omega
def ldT (l : List UInt8) : Nat → Option (List St × Nat × Nat)
 | 0 => some ([], (nx l (0, 0)).2)
 | i + 1 => match ldT l i with
  | none => none
  | some (L, st) => if (nextT l st).1.ok && decide (L.length < 8) then some (insT L (nextT l st).1, (nextT l st).2) else none
theorem ldT_succ {l : List UInt8} {i : Nat} {L : List St} {st : Nat × Nat} (h : ldT l i = some (L, st)) : ldT l (i + 1) = if (nextT l st).1.ok && decide (L.length < 8) then some (insT L (nextT l st).1, (nextT l st).2) else none := by
 unfold ldT
 rw [h]
theorem ldT_none {l : List UInt8} {i : Nat} (h : ldT l i = none) : ∀ j, ldT l (i + j) = none
 | 0 => h
 | j + 1 => by
  rw [← Nat.add_assoc]
  unfold ldT
  rw [ldT_none h j]
theorem ldT_ok {l : List UInt8} : ∀ {i : Nat} {L : List St} {st : Nat × Nat}, ldT l i = some (L, st) → TbOk L ∧ st.1 ≤ l.length
 | 0, L, st, h => by
  unfold ldT at h
  injection h with h
  injection h with h1 h2
  subst h1 h2
  exact ⟨TbOk.nil, (nx_le (Nat.zero_le _)).1⟩
 | i + 1, L, st, h => by
  cases hi : ldT l i with
  | none =>
   unfold ldT at h
   rw [hi] at h
   cases h
  | some p =>
   obtain ⟨L', st'⟩ := p
   obtain ⟨h1, h2⟩ := ldT_ok hi
   rw [ldT_succ hi] at h
   split at h
   ·rename_i hc
    simp only [Bool.and_eq_true, decide_eq_true_eq] at hc
    injection h with h
    injection h with e1 e2
    subst e1
    exact ⟨h1.ins hc.1 (.inr hc.2), by rw [← e2]; exact nextT_le h2⟩
   ·cases h
def ldN (l : List UInt8) : Nat := (nx l (0, 0)).1
theorem ldN_lt (l : List UInt8) : ldN l < 9223372036854775808 := (nx_le (Nat.zero_le _)).2
def loadT (l : List UInt8) : Option (List St) := match ldT l (ldN l) with
 | some (L, _) => if imgT L = l then some L else none
 | none => none
theorem loadT_of {l : List UInt8} {L : List St} {st : Nat × Nat} (h : ldT l (ldN l) = some (L, st)) : loadT l = if imgT L = l then some L else none := by
 unfold loadT
 rw [h]
theorem loadT_none {l : List UInt8} {i : Nat} (h : ldT l i = none) (hi : i ≤ ldN l) : loadT l = none := by
 unfold loadT
 have := ldT_none h (ldN l - i)
 rw [show i + (ldN l - i) = ldN l by omega] at this
 rw [this]
theorem insT_last : ∀ {L : List St} {x : St}, (∀ y ∈ L, y.s < x.s) → insT L x = L ++ [x]
 | [], x, _ => rfl
 | y :: r, x, h => by
  have h1 := h y (List.mem_cons_self ..)
  unfold insT
  rw [if_neg (by omega), if_neg (by omega), insT_last fun z hz => h z (List.mem_cons_of_mem _ hz)]
  rfl
theorem ldT_put {l : List UInt8} {L : List St} (hL : TbOk L) (h : l = imgT L) : ldN l = L.length ∧ ∀ i, i ≤ L.length → ∃ a, ldT l i = some (L.take i, (a, 0)) ∧ l.drop a = (L.drop i).flatMap bytesT := by
 have h0 : l.drop 0 = digits L.length ++ L.flatMap bytesT := by rw [h]; rfl
 have hn := nx_digits (by have := hL.len; omega) h0
 have hd := drop_more h0
 refine ⟨by unfold ldN; rw [hn], fun i => ?_⟩
 induction i with
 | zero =>
  intro _
  refine ⟨_, ?_, hd⟩
  unfold ldT
  rw [hn]
  rfl
 | succ i ih =>
  intro hi
  obtain ⟨a, ha, hda⟩ := ih (by omega)
  obtain ⟨x, hx⟩ : ∃ x, L[i]? = some x := ⟨_, List.getElem?_eq_getElem (by omega)⟩
  have hxo := hL.ok x (List.mem_of_getElem? hx)
  have hcons : L.drop i = x :: L.drop (i + 1) := by
   obtain ⟨hlt, rfl⟩ := List.getElem?_eq_some_iff.1 hx
   exact List.drop_eq_getElem_cons hlt
  rw [hcons, List.flatMap_cons] at hda
  obtain ⟨hnx, hdr⟩ := nextT_put hxo hda
  refine ⟨_, ?_, hdr⟩
  have hlen := hL.len
  rw [ldT_succ ha, hnx]
  dsimp only
  rw [if_pos (by simp [hxo, List.length_take]; omega), insT_last (fun y hy => ?_), List.take_add_one, hx]
  ·rfl
  ·obtain ⟨j, hj, rfl⟩ := List.getElem_of_mem hy
   rw [List.length_take] at hj
   rw [List.getElem_take]
   obtain ⟨hlt, rfl⟩ := List.getElem?_eq_some_iff.1 hx
   exact List.pairwise_iff_getElem.1 hL.rises j i (by omega) hlt (by omega)
theorem loadT_put {L : List St} (hL : TbOk L) : loadT (imgT L) = some L := by
 obtain ⟨h1, h2⟩ := ldT_put hL rfl
 obtain ⟨a, ha, _⟩ := h2 L.length (Nat.le_refl _)
 rw [List.take_length] at ha
 rw [← h1] at ha
 rw [loadT_of ha, if_pos rfl]
end Go.Proofs.YtionbmlicmibgaaGreatDoor
namespace Go.Proofs.YtionbmlicmibgaaGreatDoor
set_option linter.unusedVariables false
set_option linter.unusedSimpArgs false
open Go.RowKit
theorem grown_alloc_new {w w' : World} {row : Option Nat} (h : w.grownBy w' row) (o : Obj) : w.grownBy (w'.alloc o) row := gtrans h ((World.grownBy_alloc w' o none).but row)
theorem Sc.set_other {w : World} {g : Nat} {v : Value} {at_ E : Nat} (h : Sc w g v at_ E) {b i : Nat} (x : Value) (hne : g ≠ b) : Sc (w.setCell ⟨b, i, none⟩ x) g v at_ E := by
 unfold Sc at *
 rw [heap_setCell_other w ⟨b, i, none⟩ g _ (by simpa using hne)]
 exact h
theorem Sc.alloc' {w : World} {g : Nat} {v : Value} {at_ E : Nat} (h : Sc w g v at_ E) (o : Obj) : Sc (w.alloc o) g v at_ E := by
 have := h.lt
 unfold Sc at *
 rw [Below.heap_alloc w o g this]
 exact h
theorem set11 (Y : World) (r : Nat) (t : TypeId) (v0 v1 v2 v3 v4 v5 v6 v7 v8 v9 v10 x0 x1 x2 x3 x4 x5 x6 x7 x8 x9 x10 : Value) (h : Y.heap[r]? = some (.cells #[v0, v1, v2, v3, v4, v5, v6, v7, v8, v9, v10] t)) :
  (((((((((((Y.setCell ⟨r, 0, none⟩ x0).setCell ⟨r, 1, none⟩ x1).setCell ⟨r, 2, none⟩ x2).setCell ⟨r, 3, none⟩ x3).setCell ⟨r, 4, none⟩ x4).setCell ⟨r, 5, none⟩ x5).setCell ⟨r, 6, none⟩ x6).setCell ⟨r, 7, none⟩ x7).setCell ⟨r, 8, none⟩ x8).setCell ⟨r, 9, none⟩ x9).setCell ⟨r, 10, none⟩ x10).heap[r]? = some (.cells #[x0, x1, x2, x3, x4, x5, x6, x7, x8, x9, x10] t) := by
 have q0 := heap_setCell_same Y r 0 _ t x0 h
 have q1 := heap_setCell_same _ r 1 _ t x1 q0
 have q2 := heap_setCell_same _ r 2 _ t x2 q1
 have q3 := heap_setCell_same _ r 3 _ t x3 q2
 have q4 := heap_setCell_same _ r 4 _ t x4 q3
 have q5 := heap_setCell_same _ r 5 _ t x5 q4
 have q6 := heap_setCell_same _ r 6 _ t x6 q5
 have q7 := heap_setCell_same _ r 7 _ t x7 q6
 have q8 := heap_setCell_same _ r 8 _ t x8 q7
 have q9 := heap_setCell_same _ r 9 _ t x9 q8
 have q10 := heap_setCell_same _ r 10 _ t x10 q9
 simp only [List.setIfInBounds_toArray, List.set_cons_succ, List.set_cons_zero] at q10
 exact q10
set_option maxRecDepth 200000 in
set_option maxHeartbeats 4000000 in
theorem ses_next_any {w : World} {g : Nat} {p : Option Addr} {n c : Nat} {st : Nat × Nat} {l : List UInt8} (hS : Sc w g (.slice p n c) st.1 st.2) (hby : By w (.slice p n c) l) (hne : l = [] ∨ ∀ k, (Value.slice p n c).ownBlock = some k → some g ≠ some k) (hat : st.1 ≤ l.length) :
  Calls Tryz.prog 162 #[.pointer (some ⟨g, 0, none⟩)] w (ScPost w g (.slice p n c) (nextT l st).2.1 (nextT l st).2.2 (stV (nextT l st).1)) := by
 have hn := hby.len.1
 have hlt := hS.lt
 obtain ⟨a0, E0⟩ := st
 dsimp only at hS hat
 have HGB : Hid (∀ V, w.grownBy V (some g) → By V (.slice p n c) l) := hide fun V hV => hby.grown hV hne
 obtain ⟨n1, a1, E1, h1⟩ : ∃ n a E, nx l (a0, E0) = (n, a, E) := ⟨_, _, _, rfl⟩
 obtain ⟨n2, a2, E2, h2⟩ : ∃ n a E, nx l (a1, E1) = (n, a, E) := ⟨_, _, _, rfl⟩
 obtain ⟨n3, a3, E3, h3⟩ : ∃ n a E, nx l (a2, E2) = (n, a, E) := ⟨_, _, _, rfl⟩
 obtain ⟨n4, a4, E4, h4⟩ : ∃ n a E, nx l (a3, E3) = (n, a, E) := ⟨_, _, _, rfl⟩
 obtain ⟨n5, a5, E5, h5⟩ : ∃ n a E, nx l (a4, E4) = (n, a, E) := ⟨_, _, _, rfl⟩
 obtain ⟨n6, a6, E6, h6⟩ : ∃ n a E, nx l (a5, E5) = (n, a, E) := ⟨_, _, _, rfl⟩
 obtain ⟨n7, a7, E7, h7⟩ : ∃ n a E, nx l (a6, E6) = (n, a, E) := ⟨_, _, _, rfl⟩
 obtain ⟨n8, a8, E8, h8⟩ : ∃ n a E, nx l (a7, E7) = (n, a, E) := ⟨_, _, _, rfl⟩
 obtain ⟨n9, a9, E9, h9⟩ : ∃ n a E, nx l (a8, E8) = (n, a, E) := ⟨_, _, _, rfl⟩
 obtain ⟨n10, a10, E10, h10⟩ : ∃ n a E, nx l (a9, E9) = (n, a, E) := ⟨_, _, _, rfl⟩
 obtain ⟨n11, a11, E11, h11⟩ : ∃ n a E, nx l (a10, E10) = (n, a, E) := ⟨_, _, _, rfl⟩
 have hnx : nextT l (a0, E0) = (⟨n1, n2, n3, ⟨n4, n5, n6, n7, n8, n9, n10, n11⟩⟩, a11, E11) := by
  unfold nextT
  simp only [h1, h2, h3, h4, h5, h6, h7, h8, h9, h10, h11]
 have l1 : a1 ≤ l.length := by have := (nx_le (l := l) (st := (a0, E0)) (by dsimp only; omega)).1; rw [h1] at this; exact this
 have l2 : a2 ≤ l.length := by have := (nx_le (l := l) (st := (a1, E1)) (by dsimp only; omega)).1; rw [h2] at this; exact this
 have l3 : a3 ≤ l.length := by have := (nx_le (l := l) (st := (a2, E2)) (by dsimp only; omega)).1; rw [h3] at this; exact this
 have l4 : a4 ≤ l.length := by have := (nx_le (l := l) (st := (a3, E3)) (by dsimp only; omega)).1; rw [h4] at this; exact this
 have l5 : a5 ≤ l.length := by have := (nx_le (l := l) (st := (a4, E4)) (by dsimp only; omega)).1; rw [h5] at this; exact this
 have l6 : a6 ≤ l.length := by have := (nx_le (l := l) (st := (a5, E5)) (by dsimp only; omega)).1; rw [h6] at this; exact this
 have l7 : a7 ≤ l.length := by have := (nx_le (l := l) (st := (a6, E6)) (by dsimp only; omega)).1; rw [h7] at this; exact this
 have l8 : a8 ≤ l.length := by have := (nx_le (l := l) (st := (a7, E7)) (by dsimp only; omega)).1; rw [h8] at this; exact this
 have l9 : a9 ≤ l.length := by have := (nx_le (l := l) (st := (a8, E8)) (by dsimp only; omega)).1; rw [h9] at this; exact this
 have l10 : a10 ≤ l.length := by have := (nx_le (l := l) (st := (a9, E9)) (by dsimp only; omega)).1; rw [h10] at this; exact this
 have l11 : a11 ≤ l.length := by have := (nx_le (l := l) (st := (a10, E10)) (by dsimp only; omega)).1; rw [h11] at this; exact this
 rw [hnx]
 dsimp only
 have HNX := hide hnx
 clear hnx
 have HL := hide (And.intro hn hat)
 have H1 := hide h1
 have L1 := hide l1
 clear h1 l1
 have H2 := hide h2
 have L2 := hide l2
 clear h2 l2
 have H3 := hide h3
 have L3 := hide l3
 clear h3 l3
 have H4 := hide h4
 have L4 := hide l4
 clear h4 l4
 have H5 := hide h5
 have L5 := hide l5
 clear h5 l5
 have H6 := hide h6
 have L6 := hide l6
 clear h6 l6
 have H7 := hide h7
 have L7 := hide l7
 clear h7 l7
 have H8 := hide h8
 have L8 := hide l8
 clear h8 l8
 have H9 := hide h9
 have L9 := hide l9
 clear h9 l9
 have H10 := hide h10
 have L10 := hide l10
 clear h10 l10
 have H11 := hide h11
 have L11 := hide l11
 clear h11 l11
 obtain ⟨X, hX⟩ : ∃ X, w.alloc (.cells #[.int .i64 0, .int .i64 0, .int .i64 0, .int .i64 0, .int .i64 0, .int .i64 0, .int .i64 0, .int .i64 0, .int .i64 0, .int .i64 0, .int .i64 0] 84) = X := ⟨_, rfl⟩
 have hrX : X.heap[w.heap.size]? = some (.cells #[.int .i64 0, .int .i64 0, .int .i64 0, .int .i64 0, .int .i64 0, .int .i64 0, .int .i64 0, .int .i64 0, .int .i64 0, .int .i64 0, .int .i64 0] 84 (0, 0)) := by rw [← hX]; exact heap_alloc_new w _
 have S0 : Hid (Sc X g (.slice p n c) a0 E0) := hide (by rw [← hX]; exact hS.alloc' _)
 have G0 : Hid (w.grownBy X (some g)) := hide (by rw [← hX]; exact grown_alloc_new (World.grownBy.refl w _) _)
 have hwX : w.heap.size < X.heap.size := (Array.getElem?_eq_some_iff.1 hrX).1
 have hgw : g ≠ w.heap.size := by omega
 have R0 := hide hrX
 have HX := hide hX
 clear hn hat hS hby hrX hX
 go_enter Tryz.func162, Tryz.ntmps162
 have k1 := scanNumber_any S0.out (HGB.out _ G0.out) (by have := HL.out; omega) (N := n1) (A := a1) (E := E1) H1.out
 go_wp2_with fail
 rw [HX.out]
 refine k1.mono ?_
 rintro e w1 ⟨rfl, hs1, hg1⟩
 have S1 := hide hs1
 have G1 := hide (gtrans G0.out hg1)
 have R1 := hide ((hg1.block w.heap.size hwX (fun e => hgw (by first | exact Option.some.inj e | exact (Option.some.inj e).symm))).trans R0.out)
 have hz1 : w.heap.size < w1.heap.size := Nat.lt_of_lt_of_le hwX hg1.size
 clear hs1 hg1 k1
 have k2 := scanNumber_any S1.out (HGB.out _ G1.out) (by have := L1.out; have := HL.out.1; omega) (N := n2) (A := a2) (E := E2) H2.out
 go_wp2_with fail
 refine k2.mono ?_
 rintro e w2 ⟨rfl, hs2, hg2⟩
 have S2 := hide hs2
 have G2 := hide (gtrans G1.out hg2)
 have R2 := hide ((hg2.block w.heap.size hz1 (fun e => hgw (by first | exact Option.some.inj e | exact (Option.some.inj e).symm))).trans R1.out)
 have hz2 : w.heap.size < w2.heap.size := Nat.lt_of_lt_of_le hz1 hg2.size
 clear hs2 hg2 k2
 have k3 := scanNumber_any S2.out (HGB.out _ G2.out) (by have := L2.out; have := HL.out.1; omega) (N := n3) (A := a3) (E := E3) H3.out
 go_wp2_with fail
 refine k3.mono ?_
 rintro e w3 ⟨rfl, hs3, hg3⟩
 have S3 := hide hs3
 have G3 := hide (gtrans G2.out hg3)
 have R3 := hide ((hg3.block w.heap.size hz2 (fun e => hgw (by first | exact Option.some.inj e | exact (Option.some.inj e).symm))).trans R2.out)
 have hz3 : w.heap.size < w3.heap.size := Nat.lt_of_lt_of_le hz2 hg3.size
 clear hs3 hg3 k3
 obtain ⟨Y, hY⟩ : ∃ Y, w3.alloc (.cells #[.int .i64 n1, .int .i64 n2, .int .i64 n3, .int .i64 0, .int .i64 0, .int .i64 0, .int .i64 0, .int .i64 0, .int .i64 0, .int .i64 0, .int .i64 0] 84) = Y := ⟨_, rfl⟩
 have hbY : Y.heap[w3.heap.size]? = some (.cells #[.int .i64 n1, .int .i64 n2, .int .i64 n3, .int .i64 0, .int .i64 0, .int .i64 0, .int .i64 0, .int .i64 0, .int .i64 0, .int .i64 0, .int .i64 0] 84 (0, 0)) := by rw [← hY]; exact heap_alloc_new w3 _
 have S3' : Hid (Sc Y g (.slice p n c) a3 E3) := hide (by rw [← hY]; exact S3.out.alloc' _)
 have G3' : Hid (w.grownBy Y (some g)) := hide (by rw [← hY]; exact grown_alloc_new G3.out _)
 have R3' : Hid (Y.heap[w.heap.size]? = some (.cells #[.int .i64 0, .int .i64 0, .int .i64 0, .int .i64 0, .int .i64 0, .int .i64 0, .int .i64 0, .int .i64 0, .int .i64 0, .int .i64 0, .int .i64 0] 84 (0, 0))) := hide (by rw [← hY]; exact (Below.heap_alloc w3 _ _ hz3).trans R3.out)
 have hzY : w3.heap.size < Y.heap.size := (Array.getElem?_eq_some_iff.1 hbY).1
 have hwY : w.heap.size < Y.heap.size := by omega
 have hgb : g ≠ w3.heap.size := by omega
 have hwb : w.heap.size ≠ w3.heap.size := by omega
 have B3 := hide hbY
 have HY := hide hY
 clear hbY hY
 have k4 := scanNumber_any S3'.out (HGB.out _ G3'.out) (by have := L3.out; have := HL.out.1; omega) (N := n4) (A := a4) (E := E4) H4.out
 go_wp2_with fail
 rw [HY.out]
 refine k4.mono ?_
 rintro e w4 ⟨rfl, hs4, hg4⟩
 have S4 := hide hs4
 have G4 := hide (gtrans G3'.out hg4)
 have R4 := hide ((hg4.block w.heap.size hwY (fun e => hgw (by first | exact Option.some.inj e | exact (Option.some.inj e).symm))).trans R3'.out)
 have B4 := hide ((hg4.block w3.heap.size hzY (fun e => hgb (by first | exact Option.some.inj e | exact (Option.some.inj e).symm))).trans B3.out)
 have hz4 : w.heap.size < w4.heap.size := Nat.lt_of_lt_of_le hwY hg4.size
 have hy4 : w3.heap.size < w4.heap.size := Nat.lt_of_lt_of_le hzY hg4.size
 clear hs4 hg4 k4
 have k5 := scanNumber_any S4.out (HGB.out _ G4.out) (by have := L4.out; have := HL.out.1; omega) (N := n5) (A := a5) (E := E5) H5.out
 go_wp2_with fail
 refine k5.mono ?_
 rintro e w5 ⟨rfl, hs5, hg5⟩
 have S5 := hide hs5
 have G5 := hide (gtrans G4.out hg5)
 have R5 := hide ((hg5.block w.heap.size hz4 (fun e => hgw (by first | exact Option.some.inj e | exact (Option.some.inj e).symm))).trans R4.out)
 have B5 := hide ((hg5.block w3.heap.size hy4 (fun e => hgb (by first | exact Option.some.inj e | exact (Option.some.inj e).symm))).trans B4.out)
 have hz5 : w.heap.size < w5.heap.size := Nat.lt_of_lt_of_le hz4 hg5.size
 have hy5 : w3.heap.size < w5.heap.size := Nat.lt_of_lt_of_le hy4 hg5.size
 clear hs5 hg5 k5
 have k6 := scanNumber_any S5.out (HGB.out _ G5.out) (by have := L5.out; have := HL.out.1; omega) (N := n6) (A := a6) (E := E6) H6.out
 go_wp2_with fail
 refine k6.mono ?_
 rintro e w6 ⟨rfl, hs6, hg6⟩
 have S6 := hide hs6
 have G6 := hide (gtrans G5.out hg6)
 have R6 := hide ((hg6.block w.heap.size hz5 (fun e => hgw (by first | exact Option.some.inj e | exact (Option.some.inj e).symm))).trans R5.out)
 have B6 := hide ((hg6.block w3.heap.size hy5 (fun e => hgb (by first | exact Option.some.inj e | exact (Option.some.inj e).symm))).trans B5.out)
 have hz6 : w.heap.size < w6.heap.size := Nat.lt_of_lt_of_le hz5 hg6.size
 have hy6 : w3.heap.size < w6.heap.size := Nat.lt_of_lt_of_le hy5 hg6.size
 clear hs6 hg6 k6
 have b3 : w6.cell? ⟨w3.heap.size, 3, none⟩ = some (.int .i64 0) := cell_of_row w6 w3.heap.size 3 _ 84 (0, 0) B6.out
 have fb3 : w6.frozen? ⟨w3.heap.size, 3, none⟩ = false := frozen_of_row w6 w3.heap.size 3 _ 84 B6.out
 have b4 : w6.cell? ⟨w3.heap.size, 4, none⟩ = some (.int .i64 0) := cell_of_row w6 w3.heap.size 4 _ 84 (0, 0) B6.out
 have fb4 : w6.frozen? ⟨w3.heap.size, 4, none⟩ = false := frozen_of_row w6 w3.heap.size 4 _ 84 B6.out
 have b5 : w6.cell? ⟨w3.heap.size, 5, none⟩ = some (.int .i64 0) := cell_of_row w6 w3.heap.size 5 _ 84 (0, 0) B6.out
 have fb5 : w6.frozen? ⟨w3.heap.size, 5, none⟩ = false := frozen_of_row w6 w3.heap.size 5 _ 84 B6.out
 have b6 : w6.cell? ⟨w3.heap.size, 6, none⟩ = some (.int .i64 0) := cell_of_row w6 w3.heap.size 6 _ 84 (0, 0) B6.out
 have fb6 : w6.frozen? ⟨w3.heap.size, 6, none⟩ = false := frozen_of_row w6 w3.heap.size 6 _ 84 B6.out
 have b7 : w6.cell? ⟨w3.heap.size, 7, none⟩ = some (.int .i64 0) := cell_of_row w6 w3.heap.size 7 _ 84 (0, 0) B6.out
 have fb7 : w6.frozen? ⟨w3.heap.size, 7, none⟩ = false := frozen_of_row w6 w3.heap.size 7 _ 84 B6.out
 have b8 : w6.cell? ⟨w3.heap.size, 8, none⟩ = some (.int .i64 0) := cell_of_row w6 w3.heap.size 8 _ 84 (0, 0) B6.out
 have fb8 : w6.frozen? ⟨w3.heap.size, 8, none⟩ = false := frozen_of_row w6 w3.heap.size 8 _ 84 B6.out
 have b9 : w6.cell? ⟨w3.heap.size, 9, none⟩ = some (.int .i64 0) := cell_of_row w6 w3.heap.size 9 _ 84 (0, 0) B6.out
 have fb9 : w6.frozen? ⟨w3.heap.size, 9, none⟩ = false := frozen_of_row w6 w3.heap.size 9 _ 84 B6.out
 have b10 : w6.cell? ⟨w3.heap.size, 10, none⟩ = some (.int .i64 0) := cell_of_row w6 w3.heap.size 10 _ 84 (0, 0) B6.out
 have fb10 : w6.frozen? ⟨w3.heap.size, 10, none⟩ = false := frozen_of_row w6 w3.heap.size 10 _ 84 B6.out
 obtain ⟨U, hU⟩ : ∃ U, ((((((((w6.setCell ⟨w3.heap.size, 3, none⟩ (.int .i64 n4)).setCell ⟨w3.heap.size, 4, none⟩ (.int .i64 n5)).setCell ⟨w3.heap.size, 5, none⟩ (.int .i64 n6)).setCell ⟨w3.heap.size, 6, none⟩ (.int .i64 0)).setCell ⟨w3.heap.size, 7, none⟩ (.int .i64 0)).setCell ⟨w3.heap.size, 8, none⟩ (.int .i64 0)).setCell ⟨w3.heap.size, 9, none⟩ (.int .i64 0)).setCell ⟨w3.heap.size, 10, none⟩ (.int .i64 0)) = U := ⟨_, rfl⟩
 have BU : Hid (U.heap[w3.heap.size]? = some (.cells #[.int .i64 n1, .int .i64 n2, .int .i64 n3, .int .i64 n4, .int .i64 n5, .int .i64 n6, .int .i64 0, .int .i64 0, .int .i64 0, .int .i64 0, .int .i64 0] 84 (0, 0))) := hide (by
  have q3 := heap_setCell_same w6 w3.heap.size 3 _ 84 (.int .i64 n4) B6.out
  have q4 := heap_setCell_same _ w3.heap.size 4 _ 84 (.int .i64 n5) q3
  have q5 := heap_setCell_same _ w3.heap.size 5 _ 84 (.int .i64 n6) q4
  have q6 := heap_setCell_same _ w3.heap.size 6 _ 84 (.int .i64 0) q5
  have q7 := heap_setCell_same _ w3.heap.size 7 _ 84 (.int .i64 0) q6
  have q8 := heap_setCell_same _ w3.heap.size 8 _ 84 (.int .i64 0) q7
  have q9 := heap_setCell_same _ w3.heap.size 9 _ 84 (.int .i64 0) q8
  have q10 := heap_setCell_same _ w3.heap.size 10 _ 84 (.int .i64 0) q9
  simp only [List.setIfInBounds_toArray, List.set_cons_succ, List.set_cons_zero] at q10
  rw [← hU]
  exact q10)
 have SU : Hid (Sc U g (.slice p n c) a6 E6) := hide (by rw [← hU]; exact (Sc.set_other (Sc.set_other (Sc.set_other (Sc.set_other (Sc.set_other (Sc.set_other (Sc.set_other (Sc.set_other S6.out _ hgb) _ hgb) _ hgb) _ hgb) _ hgb) _ hgb) _ hgb) _ hgb))
 have GU : Hid (w.grownBy U (some g)) := hide (by rw [← hU]; exact (grown_set_new (grown_set_new (grown_set_new (grown_set_new (grown_set_new (grown_set_new (grown_set_new (grown_set_new G6.out (by omega)) (by omega)) (by omega)) (by omega)) (by omega)) (by omega)) (by omega)) (by omega)))
 have RU : Hid (U.heap[w.heap.size]? = some (.cells #[.int .i64 0, .int .i64 0, .int .i64 0, .int .i64 0, .int .i64 0, .int .i64 0, .int .i64 0, .int .i64 0, .int .i64 0, .int .i64 0, .int .i64 0] 84 (0, 0))) := hide (by
  rw [← hU]
  rw [heap_setCell_other _ ⟨w3.heap.size, 10, none⟩ w.heap.size _ (by simpa using hwb), heap_setCell_other _ ⟨w3.heap.size, 9, none⟩ w.heap.size _ (by simpa using hwb), heap_setCell_other _ ⟨w3.heap.size, 8, none⟩ w.heap.size _ (by simpa using hwb), heap_setCell_other _ ⟨w3.heap.size, 7, none⟩ w.heap.size _ (by simpa using hwb), heap_setCell_other _ ⟨w3.heap.size, 6, none⟩ w.heap.size _ (by simpa using hwb), heap_setCell_other _ ⟨w3.heap.size, 5, none⟩ w.heap.size _ (by simpa using hwb), heap_setCell_other _ ⟨w3.heap.size, 4, none⟩ w.heap.size _ (by simpa using hwb), heap_setCell_other _ ⟨w3.heap.size, 3, none⟩ w.heap.size _ (by simpa using hwb)]
  exact R6.out)
 have hzU : w.heap.size < U.heap.size := (Array.getElem?_eq_some_iff.1 RU.out).1
 have hyU : w3.heap.size < U.heap.size := (Array.getElem?_eq_some_iff.1 BU.out).1
 have HU := hide hU
 clear hU
 have k7 := scanNumber_any SU.out (HGB.out _ GU.out) (by have := L6.out; have := HL.out.1; omega) (N := n7) (A := a7) (E := E7) H7.out
 go_wp2_with fail
 rw [HU.out]
 clear b3 b4 b5 b6 b7 b8 b9 b10 fb3 fb4 fb5 fb6 fb7 fb8 fb9 fb10
 refine k7.mono ?_
 rintro e w7 ⟨rfl, hs7, hg7⟩
 have S7 := hide hs7
 have G7 := hide (gtrans GU.out hg7)
 have R7 := hide ((hg7.block w.heap.size hzU (fun e => hgw (by first | exact Option.some.inj e | exact (Option.some.inj e).symm))).trans RU.out)
 have B7 := hide ((hg7.block w3.heap.size hyU (fun e => hgb (by first | exact Option.some.inj e | exact (Option.some.inj e).symm))).trans BU.out)
 have hz7 : w.heap.size < w7.heap.size := Nat.lt_of_lt_of_le hzU hg7.size
 have hy7 : w3.heap.size < w7.heap.size := Nat.lt_of_lt_of_le hyU hg7.size
 clear hs7 hg7 k7
 have k8 := scanNumber_any S7.out (HGB.out _ G7.out) (by have := L7.out; have := HL.out.1; omega) (N := n8) (A := a8) (E := E8) H8.out
 go_wp2_with fail
 refine k8.mono ?_
 rintro e w8 ⟨rfl, hs8, hg8⟩
 have S8 := hide hs8
 have G8 := hide (gtrans G7.out hg8)
 have R8 := hide ((hg8.block w.heap.size hz7 (fun e => hgw (by first | exact Option.some.inj e | exact (Option.some.inj e).symm))).trans R7.out)
 have B8 := hide ((hg8.block w3.heap.size hy7 (fun e => hgb (by first | exact Option.some.inj e | exact (Option.some.inj e).symm))).trans B7.out)
 have hz8 : w.heap.size < w8.heap.size := Nat.lt_of_lt_of_le hz7 hg8.size
 have hy8 : w3.heap.size < w8.heap.size := Nat.lt_of_lt_of_le hy7 hg8.size
 clear hs8 hg8 k8
 have k9 := scanNumber_any S8.out (HGB.out _ G8.out) (by have := L8.out; have := HL.out.1; omega) (N := n9) (A := a9) (E := E9) H9.out
 go_wp2_with fail
 refine k9.mono ?_
 rintro e w9 ⟨rfl, hs9, hg9⟩
 have S9 := hide hs9
 have G9 := hide (gtrans G8.out hg9)
 have R9 := hide ((hg9.block w.heap.size hz8 (fun e => hgw (by first | exact Option.some.inj e | exact (Option.some.inj e).symm))).trans R8.out)
 have B9 := hide ((hg9.block w3.heap.size hy8 (fun e => hgb (by first | exact Option.some.inj e | exact (Option.some.inj e).symm))).trans B8.out)
 have hz9 : w.heap.size < w9.heap.size := Nat.lt_of_lt_of_le hz8 hg9.size
 have hy9 : w3.heap.size < w9.heap.size := Nat.lt_of_lt_of_le hy8 hg9.size
 clear hs9 hg9 k9
 have k10 := scanNumber_any S9.out (HGB.out _ G9.out) (by have := L9.out; have := HL.out.1; omega) (N := n10) (A := a10) (E := E10) H10.out
 go_wp2_with fail
 refine k10.mono ?_
 rintro e w10 ⟨rfl, hs10, hg10⟩
 have S10 := hide hs10
 have G10 := hide (gtrans G9.out hg10)
 have R10 := hide ((hg10.block w.heap.size hz9 (fun e => hgw (by first | exact Option.some.inj e | exact (Option.some.inj e).symm))).trans R9.out)
 have B10 := hide ((hg10.block w3.heap.size hy9 (fun e => hgb (by first | exact Option.some.inj e | exact (Option.some.inj e).symm))).trans B9.out)
 have hz10 : w.heap.size < w10.heap.size := Nat.lt_of_lt_of_le hz9 hg10.size
 have hy10 : w3.heap.size < w10.heap.size := Nat.lt_of_lt_of_le hy9 hg10.size
 clear hs10 hg10 k10
 have k11 := scanNumber_any S10.out (HGB.out _ G10.out) (by have := L10.out; have := HL.out.1; omega) (N := n11) (A := a11) (E := E11) H11.out
 go_wp2_with fail
 refine k11.mono ?_
 rintro e w11 ⟨rfl, hs11, hg11⟩
 have S11 := hide hs11
 have G11 := hide (gtrans G10.out hg11)
 have R11 := hide ((hg11.block w.heap.size hz10 (fun e => hgw (by first | exact Option.some.inj e | exact (Option.some.inj e).symm))).trans R10.out)
 have B11 := hide ((hg11.block w3.heap.size hy10 (fun e => hgb (by first | exact Option.some.inj e | exact (Option.some.inj e).symm))).trans B10.out)
 have hz11 : w.heap.size < w11.heap.size := Nat.lt_of_lt_of_le hz10 hg11.size
 have hy11 : w3.heap.size < w11.heap.size := Nat.lt_of_lt_of_le hy10 hg11.size
 clear hs11 hg11 k11
 have b6 : w11.cell? ⟨w3.heap.size, 6, none⟩ = some (.int .i64 0) := cell_of_row w11 w3.heap.size 6 _ 84 (0, 0) B11.out
 have fb6 : w11.frozen? ⟨w3.heap.size, 6, none⟩ = false := frozen_of_row w11 w3.heap.size 6 _ 84 B11.out
 have b7 : w11.cell? ⟨w3.heap.size, 7, none⟩ = some (.int .i64 0) := cell_of_row w11 w3.heap.size 7 _ 84 (0, 0) B11.out
 have fb7 : w11.frozen? ⟨w3.heap.size, 7, none⟩ = false := frozen_of_row w11 w3.heap.size 7 _ 84 B11.out
 have b8 : w11.cell? ⟨w3.heap.size, 8, none⟩ = some (.int .i64 0) := cell_of_row w11 w3.heap.size 8 _ 84 (0, 0) B11.out
 have fb8 : w11.frozen? ⟨w3.heap.size, 8, none⟩ = false := frozen_of_row w11 w3.heap.size 8 _ 84 B11.out
 have b9 : w11.cell? ⟨w3.heap.size, 9, none⟩ = some (.int .i64 0) := cell_of_row w11 w3.heap.size 9 _ 84 (0, 0) B11.out
 have fb9 : w11.frozen? ⟨w3.heap.size, 9, none⟩ = false := frozen_of_row w11 w3.heap.size 9 _ 84 B11.out
 have b10 : w11.cell? ⟨w3.heap.size, 10, none⟩ = some (.int .i64 0) := cell_of_row w11 w3.heap.size 10 _ 84 (0, 0) B11.out
 have fb10 : w11.frozen? ⟨w3.heap.size, 10, none⟩ = false := frozen_of_row w11 w3.heap.size 10 _ 84 B11.out
 obtain ⟨V, hV⟩ : ∃ V, (((((w11.setCell ⟨w3.heap.size, 6, none⟩ (.int .i64 n7)).setCell ⟨w3.heap.size, 7, none⟩ (.int .i64 n8)).setCell ⟨w3.heap.size, 8, none⟩ (.int .i64 n9)).setCell ⟨w3.heap.size, 9, none⟩ (.int .i64 n10)).setCell ⟨w3.heap.size, 10, none⟩ (.int .i64 n11)) = V := ⟨_, rfl⟩
 have BV : V.heap[w3.heap.size]? = some (.cells #[.int .i64 n1, .int .i64 n2, .int .i64 n3, .int .i64 n4, .int .i64 n5, .int .i64 n6, .int .i64 n7, .int .i64 n8, .int .i64 n9, .int .i64 n10, .int .i64 n11] 84 (0, 0)) := by
  have q6 := heap_setCell_same w11 w3.heap.size 6 _ 84 (.int .i64 n7) B11.out
  have q7 := heap_setCell_same _ w3.heap.size 7 _ 84 (.int .i64 n8) q6
  have q8 := heap_setCell_same _ w3.heap.size 8 _ 84 (.int .i64 n9) q7
  have q9 := heap_setCell_same _ w3.heap.size 9 _ 84 (.int .i64 n10) q8
  have q10 := heap_setCell_same _ w3.heap.size 10 _ 84 (.int .i64 n11) q9
  simp only [List.setIfInBounds_toArray, List.set_cons_succ, List.set_cons_zero] at q10
  rw [← hV]
  exact q10
 have SV : Hid (Sc V g (.slice p n c) a11 E11) := hide (by rw [← hV]; exact ((((S11.out.set_other _ hgb).set_other _ hgb).set_other _ hgb).set_other _ hgb).set_other _ hgb)
 have GV : Hid (w.grownBy V (some g)) := hide (by rw [← hV]; exact grown_set_new (grown_set_new (grown_set_new (grown_set_new (grown_set_new G11.out (by omega)) (by omega)) (by omega)) (by omega)) (by omega))
 have RV : V.heap[w.heap.size]? = some (.cells #[.int .i64 0, .int .i64 0, .int .i64 0, .int .i64 0, .int .i64 0, .int .i64 0, .int .i64 0, .int .i64 0, .int .i64 0, .int .i64 0, .int .i64 0] 84 (0, 0)) := by
  rw [← hV]
  rw [heap_setCell_other _ ⟨w3.heap.size, 10, none⟩ w.heap.size _ (by simpa using hwb), heap_setCell_other _ ⟨w3.heap.size, 9, none⟩ w.heap.size _ (by simpa using hwb), heap_setCell_other _ ⟨w3.heap.size, 8, none⟩ w.heap.size _ (by simpa using hwb), heap_setCell_other _ ⟨w3.heap.size, 7, none⟩ w.heap.size _ (by simpa using hwb), heap_setCell_other _ ⟨w3.heap.size, 6, none⟩ w.heap.size _ (by simpa using hwb)]
  exact R11.out
 have v0 : V.cell? ⟨w3.heap.size, 0, none⟩ = some (.int .i64 n1) := cell_of_row V w3.heap.size 0 _ 84 (0, 0) BV
 have m0 : V.cell? ⟨w.heap.size, 0, none⟩ = some (.int .i64 0) := cell_of_row V w.heap.size 0 _ 84 (0, 0) RV
 have f0 : V.frozen? ⟨w.heap.size, 0, none⟩ = false := frozen_of_row V w.heap.size 0 _ 84 RV
 have v1 : V.cell? ⟨w3.heap.size, 1, none⟩ = some (.int .i64 n2) := cell_of_row V w3.heap.size 1 _ 84 (0, 0) BV
 have m1 : V.cell? ⟨w.heap.size, 1, none⟩ = some (.int .i64 0) := cell_of_row V w.heap.size 1 _ 84 (0, 0) RV
 have f1 : V.frozen? ⟨w.heap.size, 1, none⟩ = false := frozen_of_row V w.heap.size 1 _ 84 RV
 have v2 : V.cell? ⟨w3.heap.size, 2, none⟩ = some (.int .i64 n3) := cell_of_row V w3.heap.size 2 _ 84 (0, 0) BV
 have m2 : V.cell? ⟨w.heap.size, 2, none⟩ = some (.int .i64 0) := cell_of_row V w.heap.size 2 _ 84 (0, 0) RV
 have f2 : V.frozen? ⟨w.heap.size, 2, none⟩ = false := frozen_of_row V w.heap.size 2 _ 84 RV
 have v3 : V.cell? ⟨w3.heap.size, 3, none⟩ = some (.int .i64 n4) := cell_of_row V w3.heap.size 3 _ 84 (0, 0) BV
 have m3 : V.cell? ⟨w.heap.size, 3, none⟩ = some (.int .i64 0) := cell_of_row V w.heap.size 3 _ 84 (0, 0) RV
 have f3 : V.frozen? ⟨w.heap.size, 3, none⟩ = false := frozen_of_row V w.heap.size 3 _ 84 RV
 have v4 : V.cell? ⟨w3.heap.size, 4, none⟩ = some (.int .i64 n5) := cell_of_row V w3.heap.size 4 _ 84 (0, 0) BV
 have m4 : V.cell? ⟨w.heap.size, 4, none⟩ = some (.int .i64 0) := cell_of_row V w.heap.size 4 _ 84 (0, 0) RV
 have f4 : V.frozen? ⟨w.heap.size, 4, none⟩ = false := frozen_of_row V w.heap.size 4 _ 84 RV
 have v5 : V.cell? ⟨w3.heap.size, 5, none⟩ = some (.int .i64 n6) := cell_of_row V w3.heap.size 5 _ 84 (0, 0) BV
 have m5 : V.cell? ⟨w.heap.size, 5, none⟩ = some (.int .i64 0) := cell_of_row V w.heap.size 5 _ 84 (0, 0) RV
 have f5 : V.frozen? ⟨w.heap.size, 5, none⟩ = false := frozen_of_row V w.heap.size 5 _ 84 RV
 have v6 : V.cell? ⟨w3.heap.size, 6, none⟩ = some (.int .i64 n7) := cell_of_row V w3.heap.size 6 _ 84 (0, 0) BV
 have m6 : V.cell? ⟨w.heap.size, 6, none⟩ = some (.int .i64 0) := cell_of_row V w.heap.size 6 _ 84 (0, 0) RV
 have f6 : V.frozen? ⟨w.heap.size, 6, none⟩ = false := frozen_of_row V w.heap.size 6 _ 84 RV
 have v7 : V.cell? ⟨w3.heap.size, 7, none⟩ = some (.int .i64 n8) := cell_of_row V w3.heap.size 7 _ 84 (0, 0) BV
 have m7 : V.cell? ⟨w.heap.size, 7, none⟩ = some (.int .i64 0) := cell_of_row V w.heap.size 7 _ 84 (0, 0) RV
 have f7 : V.frozen? ⟨w.heap.size, 7, none⟩ = false := frozen_of_row V w.heap.size 7 _ 84 RV
 have v8 : V.cell? ⟨w3.heap.size, 8, none⟩ = some (.int .i64 n9) := cell_of_row V w3.heap.size 8 _ 84 (0, 0) BV
 have m8 : V.cell? ⟨w.heap.size, 8, none⟩ = some (.int .i64 0) := cell_of_row V w.heap.size 8 _ 84 (0, 0) RV
 have f8 : V.frozen? ⟨w.heap.size, 8, none⟩ = false := frozen_of_row V w.heap.size 8 _ 84 RV
 have v9 : V.cell? ⟨w3.heap.size, 9, none⟩ = some (.int .i64 n10) := cell_of_row V w3.heap.size 9 _ 84 (0, 0) BV
 have m9 : V.cell? ⟨w.heap.size, 9, none⟩ = some (.int .i64 0) := cell_of_row V w.heap.size 9 _ 84 (0, 0) RV
 have f9 : V.frozen? ⟨w.heap.size, 9, none⟩ = false := frozen_of_row V w.heap.size 9 _ 84 RV
 have v10 : V.cell? ⟨w3.heap.size, 10, none⟩ = some (.int .i64 n11) := cell_of_row V w3.heap.size 10 _ 84 (0, 0) BV
 have m10 : V.cell? ⟨w.heap.size, 10, none⟩ = some (.int .i64 0) := cell_of_row V w.heap.size 10 _ 84 (0, 0) RV
 have f10 : V.frozen? ⟨w.heap.size, 10, none⟩ = false := frozen_of_row V w.heap.size 10 _ 84 RV
 have RVH := hide RV
 clear RV BV
 go_wp2
 have hs9 := set11 V w.heap.size 84 _ _ _ _ _ _ _ _ _ _ _ (.int .i64 n1) (.int .i64 n2) (.int .i64 n3) (.int .i64 n4) (.int .i64 n5) (.int .i64 n6) (.int .i64 n7) (.int .i64 n8) (.int .i64 n9) (.int .i64 n10) (.int .i64 n11) RVH.out
 have hS9 : Sc (((((((((((V.setCell ⟨w.heap.size, 0, none⟩ (.int .i64 n1)).setCell ⟨w.heap.size, 1, none⟩ (.int .i64 n2)).setCell ⟨w.heap.size, 2, none⟩ (.int .i64 n3)).setCell ⟨w.heap.size, 3, none⟩ (.int .i64 n4)).setCell ⟨w.heap.size, 4, none⟩ (.int .i64 n5)).setCell ⟨w.heap.size, 5, none⟩ (.int .i64 n6)).setCell ⟨w.heap.size, 6, none⟩ (.int .i64 n7)).setCell ⟨w.heap.size, 7, none⟩ (.int .i64 n8)).setCell ⟨w.heap.size, 8, none⟩ (.int .i64 n9)).setCell ⟨w.heap.size, 9, none⟩ (.int .i64 n10)).setCell ⟨w.heap.size, 10, none⟩ (.int .i64 n11)) g (.slice p n c) a11 E11 := (Sc.set_other (Sc.set_other (Sc.set_other (Sc.set_other (Sc.set_other (Sc.set_other (Sc.set_other (Sc.set_other (Sc.set_other (Sc.set_other (Sc.set_other SV.out _ hgw) _ hgw) _ hgw) _ hgw) _ hgw) _ hgw) _ hgw) _ hgw) _ hgw) _ hgw) _ hgw)
 have hG9 : w.grownBy (((((((((((V.setCell ⟨w.heap.size, 0, none⟩ (.int .i64 n1)).setCell ⟨w.heap.size, 1, none⟩ (.int .i64 n2)).setCell ⟨w.heap.size, 2, none⟩ (.int .i64 n3)).setCell ⟨w.heap.size, 3, none⟩ (.int .i64 n4)).setCell ⟨w.heap.size, 4, none⟩ (.int .i64 n5)).setCell ⟨w.heap.size, 5, none⟩ (.int .i64 n6)).setCell ⟨w.heap.size, 6, none⟩ (.int .i64 n7)).setCell ⟨w.heap.size, 7, none⟩ (.int .i64 n8)).setCell ⟨w.heap.size, 8, none⟩ (.int .i64 n9)).setCell ⟨w.heap.size, 9, none⟩ (.int .i64 n10)).setCell ⟨w.heap.size, 10, none⟩ (.int .i64 n11)) (some g) := (grown_set_new (grown_set_new (grown_set_new (grown_set_new (grown_set_new (grown_set_new (grown_set_new (grown_set_new (grown_set_new (grown_set_new (grown_set_new GV.out (Nat.le_refl _)) (Nat.le_refl _)) (Nat.le_refl _)) (Nat.le_refl _)) (Nat.le_refl _)) (Nat.le_refl _)) (Nat.le_refl _)) (Nat.le_refl _)) (Nat.le_refl _)) (Nat.le_refl _)) (Nat.le_refl _))
 obtain ⟨W9, hW9⟩ : ∃ W9, (((((((((((V.setCell ⟨w.heap.size, 0, none⟩ (.int .i64 n1)).setCell ⟨w.heap.size, 1, none⟩ (.int .i64 n2)).setCell ⟨w.heap.size, 2, none⟩ (.int .i64 n3)).setCell ⟨w.heap.size, 3, none⟩ (.int .i64 n4)).setCell ⟨w.heap.size, 4, none⟩ (.int .i64 n5)).setCell ⟨w.heap.size, 5, none⟩ (.int .i64 n6)).setCell ⟨w.heap.size, 6, none⟩ (.int .i64 n7)).setCell ⟨w.heap.size, 7, none⟩ (.int .i64 n8)).setCell ⟨w.heap.size, 8, none⟩ (.int .i64 n9)).setCell ⟨w.heap.size, 9, none⟩ (.int .i64 n10)).setCell ⟨w.heap.size, 10, none⟩ (.int .i64 n11)) = W9 := ⟨_, rfl⟩
 rw [hW9] at hs9 hS9 hG9 ⊢
 clear hW9
 have n0_ : W9.cell? ⟨w.heap.size, 0, none⟩ = some (.int .i64 n1) := cell_of_row W9 w.heap.size 0 _ 84 (0, 0) hs9
 have n1_ : W9.cell? ⟨w.heap.size, 1, none⟩ = some (.int .i64 n2) := cell_of_row W9 w.heap.size 1 _ 84 (0, 0) hs9
 have n2_ : W9.cell? ⟨w.heap.size, 2, none⟩ = some (.int .i64 n3) := cell_of_row W9 w.heap.size 2 _ 84 (0, 0) hs9
 have n3_ : W9.cell? ⟨w.heap.size, 3, none⟩ = some (.int .i64 n4) := cell_of_row W9 w.heap.size 3 _ 84 (0, 0) hs9
 have n4_ : W9.cell? ⟨w.heap.size, 4, none⟩ = some (.int .i64 n5) := cell_of_row W9 w.heap.size 4 _ 84 (0, 0) hs9
 have n5_ : W9.cell? ⟨w.heap.size, 5, none⟩ = some (.int .i64 n6) := cell_of_row W9 w.heap.size 5 _ 84 (0, 0) hs9
 have n6_ : W9.cell? ⟨w.heap.size, 6, none⟩ = some (.int .i64 n7) := cell_of_row W9 w.heap.size 6 _ 84 (0, 0) hs9
 have n7_ : W9.cell? ⟨w.heap.size, 7, none⟩ = some (.int .i64 n8) := cell_of_row W9 w.heap.size 7 _ 84 (0, 0) hs9
 have n8_ : W9.cell? ⟨w.heap.size, 8, none⟩ = some (.int .i64 n9) := cell_of_row W9 w.heap.size 8 _ 84 (0, 0) hs9
 have n9_ : W9.cell? ⟨w.heap.size, 9, none⟩ = some (.int .i64 n10) := cell_of_row W9 w.heap.size 9 _ 84 (0, 0) hs9
 have n10_ : W9.cell? ⟨w.heap.size, 10, none⟩ = some (.int .i64 n11) := cell_of_row W9 w.heap.size 10 _ 84 (0, 0) hs9
 have hz9 : w.heap.size < W9.heap.size := lt_of_cell n0_
 clear hs9
 refine bodyPost_ret (v := .agg #[.int .i64 n1, .int .i64 n2, .int .i64 n3, .int .i64 n4, .int .i64 n5, .int .i64 n6, .int .i64 n7, .int .i64 n8, .int .i64 n9, .int .i64 n10, .int .i64 n11]) (by simp [results, Tryz.results162, go_sem, n0_, n1_, n2_, n3_, n4_, n5_, n6_, n7_, n8_, n9_, n10_, hz9]) rfl ⟨rfl, hS9, hG9⟩
end Go.Proofs.YtionbmlicmibgaaGreatDoor
namespace Go.Proofs.YtionbmlicmibgaaGreatDoor
set_option linter.unusedVariables false
set_option linter.unusedSimpArgs false
open Go.RowKit
def LoadPost (w : World) : Option (List St) → Ending → World → Prop
 | some L, e, w' => e = .returned (.tuple #[.pointer (some ⟨w.heap.size + 1, 0, none⟩), .int .i64 0]) ∧ TbOwn w (w.heap.size + 1) w.heap.size w' L
 | none, e, w' => e = .returned (.tuple #[.pointer none, .int .i64 83]) ∧ Below w.heap.size w w'
theorem TbOwn.grown {w0 w w' : World} {g b k : Nat} {L : List St} (h : TbOwn w0 g b w L) (hg : w.grownBy w' (some k)) (h1 : k ≠ g) (h2 : k ≠ b) (hk : w0.heap.size ≤ k) : TbOwn w0 g b w' L :=
 have hc : Chg w w' (fun j => j = k) := Chg.of_grown hg _ (fun j e => by injection e with e; exact .inl e.symm)
 ⟨h.tb.chg hc (fun e => h1 e.symm) (fun e => h2 e.symm), h.gl, h.bl, Chg.to_below h.below hc (fun j e => by rw [e]; exact hk)⟩
set_option maxRecDepth 200000 in
set_option maxHeartbeats 4000000 in
theorem ses_load_any {w : World} {p : Option Addr} {n c : Nat} {l : List UInt8} (hv : By w (.slice p n c) l) (hl : l.length ≤ 1100000) : Calls Tryz.prog 124 #[.slice p n c] w (LoadPost w (loadT l)) := by
 have HV := hide hv
 clear hv
 go_enter Tryz.func124, Tryz.ntmps124
 go_wp2_with fail
 refine (ses_new_any w).mono ?_
 rintro e w1 ⟨rfl, h1, hb1⟩
 have T1 := hide (TbOwn.new h1 hb1)
 have BV1 := hide (HV.out.below hb1)
 have HS1 := hide (show w.heap.size + 1 < w1.heap.size from h1.gl)
 obtain ⟨gt, hgt⟩ : ∃ gt, w.heap.size + 1 = gt := ⟨_, rfl⟩
 obtain ⟨bt, hbt⟩ : ∃ bt, w.heap.size = bt := ⟨_, rfl⟩
 have T1' : Hid (TbOwn w gt bt w1 []) := hide (by rw [← hbt, ← hgt]; exact T1.out)
 rw [hgt]
 have HG := hide (And.intro hgt hbt)
 clear T1 hgt hbt h1 hb1
 go_wp2_with fail
 refine (over_any BV1.out (by omega)).mono ?_
 rintro e w2 ⟨g, u, rfl, hg1, hS2, hO2, hne2, hb2⟩
 obtain ⟨pu, nu, cu, rfl⟩ := hO2.by_.sl
 have T2 := hide (T1'.out.bel hb2)
 have S2 := hide hS2
 have Y2 := hide hO2.by_
 have hgt' : g ≠ gt := by have := HG.out.1; have := HS1.out; omega
 have hgb' : g ≠ bt := by have := HG.out.2; have := HS1.out; omega
 have hgw : w.heap.size ≤ g := by have := HS1.out; omega
 have HNG := hide hne2
 have HNB : Hid (l = [] ∨ ∀ k, (Value.slice pu nu cu).ownBlock = some k → some bt ≠ some k) := hide (by
  rcases hO2 with ⟨_, e⟩ | ⟨gg, cap, e, hB, _⟩
  ·exact .inl e
  ·refine .inr fun k hk e2 => ?_
   injection e2 with e2
   rw [e] at hk
   simp [Value.ownBlock] at hk
   have := HG.out.2
   have := HS1.out
   omega)
 clear hS2 hO2 hne2 hb2 hg1
 obtain ⟨N, a0, E0, h0⟩ : ∃ n a E, nx l (0, 0) = (n, a, E) := ⟨_, _, _, rfl⟩
 have hN : ldN l = N := by unfold ldN; rw [h0]
 have hN63 : (N : Int) ≤ 9223372036854775807 := by have := ldN_lt l; rw [hN] at this; omega
 have hld0 : ldT l 0 = some ([], a0, E0) := by unfold ldT; rw [h0]
 have k1 := hide (scanNumber_any S2.out Y2.out (Nat.zero_le _) (N := N) (A := a0) (E := E0) h0)
 have HN := hide hN
 have HLD0 := hide hld0
 clear hN hld0 h0
 go_wp2_with fail
 refine k1.out.mono ?_
 rintro e w3 ⟨rfl, hs3, hg3⟩
 have T3 := hide (T2.out.grown hg3 hgt' hgb' hgw)
 have S3 := hide hs3
 have Y3 := hide (Y2.out.grown hg3 HNG.out)
 clear hs3 hg3 k1
 go_wp2
 go_loopw [12] (fun i wr => ∃ (k : Nat) (L : List St) (st : Nat × Nat), k ≤ N ∧ i = .int .i64 k ∧ Hid (ldT l k = some (L, st) ∧ TbOwn w gt bt wr L ∧ Sc wr g (.slice pu nu cu) st.1 st.2 ∧ By wr (.slice pu nu cu) l)) (fun i _ => N - (intOf i).toNat)
 case atStart => exact ⟨0, [], (a0, E0), by omega, rfl, hide ⟨HLD0.out, T3.out, S3.out, Y3.out⟩⟩
 case round =>
  obtain ⟨k, L, st, hk, rfl, HR⟩ := hrel
  by_cases hlt : k < N
  ·have hst := (ldT_ok HR.out.1).2
   have hnx := hide (ses_next_any HR.out.2.2.1 HR.out.2.2.2 HNG.out hst)
   obtain ⟨x, st', hx⟩ : ∃ x st', nextT l st = (x, st') := ⟨_, _, rfl⟩
   have HSU := hide (ldT_succ HR.out.1)
   rw [hx] at hnx HSU
   have hL8 := (ldT_ok HR.out.1).1.len
   clear hst hx
   obtain ⟨s, q, a, ⟨e1, e2, e3, e4, e5, e6, e7, e8⟩⟩ := x
   unfold stV at hnx
   dsimp only at hnx HSU
   go_wp2_with fail
   refine hnx.out.mono ?_
   rintro e w5 ⟨rfl, hs5, hg5⟩
   have T5 := hide (HR.out.2.1.grown hg5 hgt' hgb' hgw)
   have S5 := hide hs5
   have Y5 := hide (HR.out.2.2.2.grown hg5 HNG.out)
   clear hs5 hg5 hnx
   obtain ⟨Y, hY⟩ : ∃ Y, w5.alloc (.cells #[.int .i64 s, .int .i64 q, .int .i64 a, .int .i64 e1, .int .i64 e2, .int .i64 e3, .int .i64 e4, .int .i64 e5, .int .i64 e6, .int .i64 e7, .int .i64 e8] 84) = Y := ⟨_, rfl⟩
   have hbY : Below w5.heap.size w5 Y := by rw [← hY]; exact (Below.refl _ _).alloc (Nat.le_refl _) _
   have hcY : ∀ i v, (stC (⟨s, q, a, ⟨e1, e2, e3, e4, e5, e6, e7, e8⟩⟩ : St))[i]? = some v → Y.cell? ⟨w5.heap.size, i, none⟩ = some v := fun i v hi => by
    rw [← hY, World.cell?_alloc_new]
    unfold stC at hi
    simpa using hi
   have hzY : w5.heap.size < Y.heap.size := by rw [← hY]; simp
   have y0 : Y.cell? ⟨w5.heap.size, 0, none⟩ = some (.int .i64 s) := hcY 0 _ rfl
   have y1 : Y.cell? ⟨w5.heap.size, 1, none⟩ = some (.int .i64 q) := hcY 1 _ rfl
   have y2 : Y.cell? ⟨w5.heap.size, 2, none⟩ = some (.int .i64 a) := hcY 2 _ rfl
   have y3 : Y.cell? ⟨w5.heap.size, 3, none⟩ = some (.int .i64 e1) := hcY 3 _ rfl
   have y4 : Y.cell? ⟨w5.heap.size, 4, none⟩ = some (.int .i64 e2) := hcY 4 _ rfl
   have y5 : Y.cell? ⟨w5.heap.size, 5, none⟩ = some (.int .i64 e3) := hcY 5 _ rfl
   have y6 : Y.cell? ⟨w5.heap.size, 6, none⟩ = some (.int .i64 e4) := hcY 6 _ rfl
   have y7 : Y.cell? ⟨w5.heap.size, 7, none⟩ = some (.int .i64 e5) := hcY 7 _ rfl
   have y8 : Y.cell? ⟨w5.heap.size, 8, none⟩ = some (.int .i64 e6) := hcY 8 _ rfl
   have y9 : Y.cell? ⟨w5.heap.size, 9, none⟩ = some (.int .i64 e7) := hcY 9 _ rfl
   have y10 : Y.cell? ⟨w5.heap.size, 10, none⟩ = some (.int .i64 e8) := hcY 10 _ rfl
   have TY := hide (T5.out.bel hbY)
   have SY := hide (S5.out.below hbY)
   have YY := hide (Y5.out.below hbY)
   have HCY := hide hcY
   clear hcY hbY
   cases hok : (⟨s, q, a, ⟨e1, e2, e3, e4, e5, e6, e7, e8⟩⟩ : St).ok
   ·have hst := fun w => ses_stand_any w (⟨s, q, a, ⟨e1, e2, e3, e4, e5, e6, e7, e8⟩⟩ : St)
    rw [hok] at hst
    have HNO : Hid (loadT l = none) := hide (loadT_none (i := k + 1) (HSU.out.trans (if_neg (by rw [hok]; simp))) (by have := HN.out; omega))
    unfold stV at hst
    dsimp only at hst
    clear hok
    go_wp2_with fail
    refine (hst _).mono ?_
    rintro e w6 ⟨rfl, hb6⟩
    have T6 := hide (TY.out.bel hb6)
    clear hb6 hst
    go_wp2
    go_ret2
    rw [HNO.out]
    exact ⟨by rfl, T6.out.below⟩
   ·have hst := fun w => ses_stand_any w (⟨s, q, a, ⟨e1, e2, e3, e4, e5, e6, e7, e8⟩⟩ : St)
    rw [hok] at hst
    have hsb := (St.ok_iff.1 hok).1
    dsimp only at hsb
    have HOK := hide hok
    unfold stV at hst
    dsimp only at hst
    clear hok
    by_cases h8 : (8 : Int) ≤ (L.length : Int)
    ·have HNO : Hid (loadT l = none) := hide (loadT_none (i := k + 1) (HSU.out.trans (if_neg (by simp; omega))) (by have := HN.out; omega))
     go_wp2_with fail
     refine (hst _).mono ?_
     rintro e w6 ⟨rfl, hb6⟩
     have T6 := hide (TY.out.bel hb6)
     have c06 := T6.out.tb.c0
     obtain ⟨D6, hD6⟩ := T6.out.tb.map
     have hlen := hD6.map.len Tryz.underlying171 3
     rw [hD6.rd.size] at hlen
     clear hb6 hst hD6
     go_wp2
     go_ret2
     rw [HNO.out]
     exact ⟨by rfl, T6.out.below⟩
    ·have HYES : Hid (ldT l (k + 1) = some (insT L (⟨s, q, a, ⟨e1, e2, e3, e4, e5, e6, e7, e8⟩⟩ : St), st')) := hide (HSU.out.trans (if_pos (by rw [HOK.out]; simp; omega)))
     go_wp2_with fail
     refine (hst _).mono ?_
     rintro e w6 ⟨rfl, hb6⟩
     have T6 := hide (TY.out.bel hb6)
     have S6 := hide (SY.out.below hb6)
     have Y6 := hide (YY.out.below hb6)
     have hz6 : ∀ i v, (stC (⟨s, q, a, ⟨e1, e2, e3, e4, e5, e6, e7, e8⟩⟩ : St))[i]? = some v → w6.cell? ⟨w5.heap.size, i, none⟩ = some v := fun i v hi => (hb6.cell (p := ⟨w5.heap.size, i, none⟩) hzY).trans (HCY.out i v hi)
     have x0 : w6.cell? ⟨w5.heap.size, 0, none⟩ = some (.int .i64 s) := hz6 0 _ rfl
     have x1 : w6.cell? ⟨w5.heap.size, 1, none⟩ = some (.int .i64 q) := hz6 1 _ rfl
     have x2 : w6.cell? ⟨w5.heap.size, 2, none⟩ = some (.int .i64 a) := hz6 2 _ rfl
     have x3 : w6.cell? ⟨w5.heap.size, 3, none⟩ = some (.int .i64 e1) := hz6 3 _ rfl
     have x4 : w6.cell? ⟨w5.heap.size, 4, none⟩ = some (.int .i64 e2) := hz6 4 _ rfl
     have x5 : w6.cell? ⟨w5.heap.size, 5, none⟩ = some (.int .i64 e3) := hz6 5 _ rfl
     have x6 : w6.cell? ⟨w5.heap.size, 6, none⟩ = some (.int .i64 e4) := hz6 6 _ rfl
     have x7 : w6.cell? ⟨w5.heap.size, 7, none⟩ = some (.int .i64 e5) := hz6 7 _ rfl
     have x8 : w6.cell? ⟨w5.heap.size, 8, none⟩ = some (.int .i64 e6) := hz6 8 _ rfl
     have x9 : w6.cell? ⟨w5.heap.size, 9, none⟩ = some (.int .i64 e7) := hz6 9 _ rfl
     have x10 : w6.cell? ⟨w5.heap.size, 10, none⟩ = some (.int .i64 e8) := hz6 10 _ rfl
     have c06 := T6.out.tb.c0
     obtain ⟨D6, hD6⟩ := T6.out.tb.map
     have hlen := hD6.map.len Tryz.underlying171 3
     rw [hD6.rd.size] at hlen
     have hD' : TmIs w6.drew bt L D6 := hD6.drewN 1
     obtain ⟨w7, D7, hrun, hg7, hm7⟩ := hD'.store (x := (⟨s, q, a, ⟨e1, e2, e3, e4, e5, e6, e7, e8⟩⟩ : St)) (wf40 (by dsimp only; omega) (by dsimp only; omega)) (by simp [maxLen]; omega)
     unfold stV at hrun
     dsimp only at hrun
     have H7 := hide (And.intro hg7 hm7)
     have HTO : Hid (TbOk (insT L (⟨s, q, a, ⟨e1, e2, e3, e4, e5, e6, e7, e8⟩⟩ : St))) := hide ((ldT_ok HYES.out).1)
     clear hb6 hst hD6 hD' hz6 hg7 hm7 y0 y1 y2 y3 y4 y5 y6 y7 y8 y9 y10
     go_wp2
     go_region
     all_goals
      have hc7 : Chg w6 w7 (fun k => k = bt) := ((Chg.refl w6 (fun k => k = bt)).drewN 1).trans (show Chg w6.drew w7 (fun k => k = bt) from Chg.of_grown H7.out.1 _ (fun k e => by injection e with e; exact .inl e.symm)) fun k hk => .inl hk
      have T7 := hide (T6.out.tab (T6.out.tb.with_ hc7 H7.out.2 HTO.out) hc7)
      have S7 := hide (S6.out.chg hc7 (fun e => hgb' e))
      have Y7 := hide ((show By w6.drew (.slice pu nu cu) l from Y6.out).grown H7.out.1 HNB.out)
      clear hc7 hrun
      go_wp2
      go_roundw
      case rel => exact ⟨k + 1, _, st', by omega, by go_num, hide ⟨HYES.out, T7.out, S7.out, Y7.out⟩⟩
      case measure => simp [intOf]; omega
  ·obtain rfl : k = N := by omega
   have hof := loadT_of (HN.out ▸ HR.out.1)
   have TR := hide HR.out.2.1
   have BVR := hide (HV.out.below TR.out.below)
   have HOF := hide hof
   clear hof
   go_wp2_with fail
   refine (ses_image_any TR.out.tb).mono ?_
   rintro e w5 ⟨v5, rfl, ho5, hb5⟩
   obtain ⟨p5, n5, c5, rfl⟩ := ho5.by_.sl
   have T5 := hide (TR.out.bel hb5)
   have HE := hide (equal_any ho5.by_ (BVR.out.below hb5))
   clear ho5 hb5
   by_cases hq : imgT L = l
   ·have heq : (imgT L == l) = true := by rw [hq]; simp
    rw [heq] at HE
    have HRES := hide (HOF.out.trans (if_pos hq))
    clear hq heq
    go_wp2_with fail
    refine HE.out.mono ?_
    rintro e w6 ⟨rfl, rfl⟩
    go_wp2
    go_ret2
    rw [HRES.out]
    have ht := T5.out
    rw [← HG.out.1, ← HG.out.2] at ht
    exact ⟨by rw [HG.out.1]; rfl, ht⟩
   ·have heq : (imgT L == l) = false := by simpa using hq
    rw [heq] at HE
    have HRES := hide (HOF.out.trans (if_neg hq))
    clear hq heq
    go_wp2_with fail
    refine HE.out.mono ?_
    rintro e w6 ⟨rfl, rfl⟩
    go_wp2
    go_ret2
    rw [HRES.out]
    exact ⟨by rfl, T5.out.below⟩
end Go.Proofs.YtionbmlicmibgaaGreatDoor
