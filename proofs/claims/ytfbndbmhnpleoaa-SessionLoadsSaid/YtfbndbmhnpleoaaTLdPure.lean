/- What bytes tell of a table, plainly. -/
import Derived.Test.YtfbndbmhnpleoaaTImage
namespace Go.Proofs.Ytfbndbmhnpleoaa
set_option linter.unusedVariables false
set_option linter.unusedSimpArgs false

theorem rd_bad0 : ∀ (l : List UInt8) (i z : Nat) {n k e : Nat}, rd l i z = (n, k, e) → e ≠ 0 → n = 0
  | [], i, z, n, k, e, h, he => by simp only [rd, Prod.mk.injEq] at h; omega
  | x :: r, i, z, n, k, e, h, he => by
    rw [rd_cons] at h
    split at h
    · simp only [Prod.mk.injEq] at h; omega
    · split at h
      · simp only [Prod.mk.injEq] at h; omega
      · split at h
        · simp only [Prod.mk.injEq] at h; omega
        · exact rd_bad0 r _ _ h he
theorem readNum_bad0 {l : List UInt8} {n k e : Nat} (h : readNum l = (n, k, e)) (he : e ≠ 0) : n = 0 := rd_bad0 l 0 0 h he

/-! ## Reading -/
/-- A number behind a place, if there is no error so far: it, the place behind, the error. -/
def nx (l : List UInt8) (st : Nat × Nat) : Nat × Nat × Nat :=
  if st.2 ≠ 0 then (0, st.1, st.2) else ((readNum (l.drop st.1)).1, st.1 + (readNum (l.drop st.1)).2.1, (readNum (l.drop st.1)).2.2)

theorem nx_bad {l : List UInt8} {st : Nat × Nat} {n a e : Nat} (h : nx l st = (n, a, e)) (he : e ≠ 0) : n = 0 ∧ (st.2 ≠ 0 → e = st.2 ∧ a = st.1) := by
  unfold nx at h
  split at h
  · simp only [Prod.mk.injEq] at h
    obtain ⟨rfl, rfl, rfl⟩ := h
    exact ⟨rfl, fun _ => ⟨rfl, rfl⟩⟩
  · rename_i h0
    simp only [Prod.mk.injEq] at h
    obtain ⟨h1, h2, h3⟩ := h
    have := (readNum_bad0 (l := l.drop st.1) (n := n) (k := (readNum (l.drop st.1)).2.1) (e := e) (by rw [← h1, ← h3]) he)
    exact ⟨this, fun h => absurd h h0⟩

/-- What was read as a number is its own form. -/
theorem nx_form {l : List UInt8} {st : Nat × Nat} {n a : Nat} (h : nx l st = (n, a, 0)) (hl : st.1 ≤ l.length) : st.2 = 0 ∧ st.1 ≤ a ∧ a ≤ l.length ∧ l.drop st.1 = digits n ++ l.drop a ∧ n < 9223372036854775808 := by
  unfold nx at h
  split at h
  · rename_i h0
    simp only [Prod.mk.injEq] at h
    exact absurd h.2.2 h0
  · rename_i h0
    simp only [Prod.mk.injEq] at h
    obtain ⟨h1, h2, h3⟩ := h
    obtain ⟨n', k, e', hR⟩ : ∃ n k e, readNum (l.drop st.1) = (n, k, e) := ⟨_, _, _, rfl⟩
    rw [hR] at h1 h2 h3
    dsimp only at h1 h2 h3
    subst h1 h3
    obtain ⟨g1, g2, g3, g4⟩ := readNum_form hR
    rw [List.length_drop] at g1
    refine ⟨by omega, by omega, by omega, ?_, Nat.lt_of_lt_of_le g4 (Nat.le_trans (Nat.pow_le_pow_right (by decide) g2) (by decide))⟩
    rw [← g3, ← h2, ← List.drop_drop, List.take_append_drop]

theorem nx_digits {l : List UInt8} {a n : Nat} {r : List UInt8} (hn : n < 9223372036854775808) (h : l.drop a = digits n ++ r) : nx l (a, 0) = (n, a + (digits n).length, 0) := by
  unfold nx
  rw [if_neg (by simp), h, readNum_digits hn]

theorem drop_more {l : List UInt8} {a : Nat} {x r : List UInt8} (h : l.drop a = x ++ r) : l.drop (a + x.length) = r := by
  rw [← List.drop_drop, h, List.drop_left]


theorem nx_le {l : List UInt8} {st : Nat × Nat} (h : st.1 ≤ l.length) : (nx l st).2.1 ≤ l.length ∧ (nx l st).1 < 9223372036854775808 := by
  unfold nx
  split
  · exact ⟨h, by show (0 : Nat) < _; decide⟩
  · obtain ⟨n, k, e, hR⟩ : ∃ n k e, readNum (l.drop st.1) = (n, k, e) := ⟨_, _, _, rfl⟩
    rw [hR]
    have := readNum_any hR
    rw [List.length_drop] at this
    dsimp only
    omega
/-- The session whose bytes come next, and what stands behind. -/
def nextT (l : List UInt8) (st : Nat × Nat) : St × Nat × Nat :=
  let r1 := nx l st
  let r2 := nx l r1.2
  let r3 := nx l r2.2
  let r4 := nx l r3.2
  let r5 := nx l r4.2
  let r6 := nx l r5.2
  let r7 := nx l r6.2
  let r8 := nx l r7.2
  let r9 := nx l r8.2
  let r10 := nx l r9.2
  let r11 := nx l r10.2
  (⟨r1.1, r2.1, r3.1, ⟨r4.1, r5.1, r6.1, r7.1, r8.1, r9.1, r10.1, r11.1⟩⟩, r11.2)
theorem nextT_le {l : List UInt8} {st : Nat × Nat} (h : st.1 ≤ l.length) : (nextT l st).2.1 ≤ l.length := by
  unfold nextT
  dsimp only
  exact (nx_le (nx_le (nx_le (nx_le (nx_le (nx_le (nx_le (nx_le (nx_le (nx_le (nx_le h).1).1).1).1).1).1).1).1).1).1).1
/-- A session is read as it was put. -/
theorem nextT_put {l : List UInt8} {a : Nat} {x : St} {r : List UInt8} (hx : x.ok = true) (h : l.drop a = bytesT x ++ r) : nextT l (a, 0) = (x, a + (bytesT x).length, 0) ∧ l.drop (a + (bytesT x).length) = r := by
  have hr := drop_more h
  have hb : ∀ n ∈ x.nums, 0 ≤ n ∧ n ≤ 1099511627776 := fun n hn => by
    have h2 : x.tell = true := by unfold St.ok at hx; simp at hx; exact hx.2
    exact n40_iff.1 (List.all_eq_true.1 h2 n hn)
  obtain ⟨n1, n2, n3, ⟨n4, n5, n6, n7, n8, n9, n10, n11⟩⟩ := x
  have b1 := hb n1 (by simp [St.nums])
  have b2 := hb n2 (by simp [St.nums])
  have b3 := hb n3 (by simp [St.nums])
  have b4 := hb n4 (by simp [St.nums])
  have b5 := hb n5 (by simp [St.nums])
  have b6 := hb n6 (by simp [St.nums])
  have b7 := hb n7 (by simp [St.nums])
  have b8 := hb n8 (by simp [St.nums])
  have b9 := hb n9 (by simp [St.nums])
  have b10 := hb n10 (by simp [St.nums])
  have b11 := hb n11 (by simp [St.nums])
  have hform : bytesT ⟨n1, n2, n3, ⟨n4, n5, n6, n7, n8, n9, n10, n11⟩⟩ = digits n1.toNat ++ (digits n2.toNat ++ (digits n3.toNat ++ (digits n4.toNat ++ (digits n5.toNat ++ (digits n6.toNat ++ (digits n7.toNat ++ (digits n8.toNat ++ (digits n9.toNat ++ (digits n10.toNat ++ (digits n11.toNat)))))))))) := by
    simp [bytesT, numsB, St.nums]
  refine ⟨?_, hr⟩
  rw [hform] at h ⊢
  simp only [List.append_assoc] at h
  have q1 := nx_digits (l := l) (a := a) (n := n1.toNat) (by omega) h
  replace h := drop_more h
  have q2 := nx_digits (l := l) (a := a + (digits n1.toNat).length) (n := n2.toNat) (by omega) h
  replace h := drop_more h
  have q3 := nx_digits (l := l) (a := a + (digits n1.toNat).length + (digits n2.toNat).length) (n := n3.toNat) (by omega) h
  replace h := drop_more h
  have q4 := nx_digits (l := l) (a := a + (digits n1.toNat).length + (digits n2.toNat).length + (digits n3.toNat).length) (n := n4.toNat) (by omega) h
  replace h := drop_more h
  have q5 := nx_digits (l := l) (a := a + (digits n1.toNat).length + (digits n2.toNat).length + (digits n3.toNat).length + (digits n4.toNat).length) (n := n5.toNat) (by omega) h
  replace h := drop_more h
  have q6 := nx_digits (l := l) (a := a + (digits n1.toNat).length + (digits n2.toNat).length + (digits n3.toNat).length + (digits n4.toNat).length + (digits n5.toNat).length) (n := n6.toNat) (by omega) h
  replace h := drop_more h
  have q7 := nx_digits (l := l) (a := a + (digits n1.toNat).length + (digits n2.toNat).length + (digits n3.toNat).length + (digits n4.toNat).length + (digits n5.toNat).length + (digits n6.toNat).length) (n := n7.toNat) (by omega) h
  replace h := drop_more h
  have q8 := nx_digits (l := l) (a := a + (digits n1.toNat).length + (digits n2.toNat).length + (digits n3.toNat).length + (digits n4.toNat).length + (digits n5.toNat).length + (digits n6.toNat).length + (digits n7.toNat).length) (n := n8.toNat) (by omega) h
  replace h := drop_more h
  have q9 := nx_digits (l := l) (a := a + (digits n1.toNat).length + (digits n2.toNat).length + (digits n3.toNat).length + (digits n4.toNat).length + (digits n5.toNat).length + (digits n6.toNat).length + (digits n7.toNat).length + (digits n8.toNat).length) (n := n9.toNat) (by omega) h
  replace h := drop_more h
  have q10 := nx_digits (l := l) (a := a + (digits n1.toNat).length + (digits n2.toNat).length + (digits n3.toNat).length + (digits n4.toNat).length + (digits n5.toNat).length + (digits n6.toNat).length + (digits n7.toNat).length + (digits n8.toNat).length + (digits n9.toNat).length) (n := n10.toNat) (by omega) h
  replace h := drop_more h
  have q11 := nx_digits (l := l) (a := a + (digits n1.toNat).length + (digits n2.toNat).length + (digits n3.toNat).length + (digits n4.toNat).length + (digits n5.toNat).length + (digits n6.toNat).length + (digits n7.toNat).length + (digits n8.toNat).length + (digits n9.toNat).length + (digits n10.toNat).length) (n := n11.toNat) (by omega) h
  replace h := drop_more h
  unfold nextT
  simp only [q1, q2, q3, q4, q5, q6, q7, q8, q9, q10, q11]
  refine Prod.ext ?_ (Prod.ext ?_ rfl)
  · simp only [St.mk.injEq, Rp.mk.injEq]
    refine ⟨?_, ?_, ?_, ?_, ?_, ?_, ?_, ?_, ?_, ?_, ?_⟩
    all_goals omega
  · simp only [List.length_append]
    omega

/-- The sessions and the place behind so many rounds; none: a round was refused. -/
def ldT (l : List UInt8) : Nat → Option (List St × Nat × Nat)
  | 0 => some ([], (nx l (0, 0)).2)
  | i + 1 => match ldT l i with
    | none => none
    | some (L, st) => if (nextT l st).1.ok && decide (L.length < 8) then some (insT L (nextT l st).1, (nextT l st).2) else none
theorem ldT_succ {l : List UInt8} {i : Nat} {L : List St} {st : Nat × Nat} (h : ldT l i = some (L, st)) : ldT l (i + 1) = if (nextT l st).1.ok && decide (L.length < 8) then some (insT L (nextT l st).1, (nextT l st).2) else none := by
  unfold ldT
  rw [h]
theorem ldT_none {l : List UInt8} {i : Nat} (h : ldT l i = none) : ∀ j, ldT l (i + j) = none
  | 0 => h
  | j + 1 => by
    rw [← Nat.add_assoc]
    unfold ldT
    rw [ldT_none h j]
theorem ldT_ok {l : List UInt8} : ∀ {i : Nat} {L : List St} {st : Nat × Nat}, ldT l i = some (L, st) → TbOk L ∧ st.1 ≤ l.length
  | 0, L, st, h => by
    unfold ldT at h
    injection h with h
    injection h with h1 h2
    subst h1 h2
    exact ⟨TbOk.nil, (nx_le (Nat.zero_le _)).1⟩
  | i + 1, L, st, h => by
    cases hi : ldT l i with
    | none =>
      unfold ldT at h
      rw [hi] at h
      cases h
    | some p =>
      obtain ⟨L', st'⟩ := p
      obtain ⟨h1, h2⟩ := ldT_ok hi
      rw [ldT_succ hi] at h
      split at h
      · rename_i hc
        simp only [Bool.and_eq_true, decide_eq_true_eq] at hc
        injection h with h
        injection h with e1 e2
        subst e1
        exact ⟨h1.ins hc.1 (.inr hc.2), by rw [← e2]; exact nextT_le h2⟩
      · cases h
/-- How many rounds. -/
def ldN (l : List UInt8) : Nat := (nx l (0, 0)).1
theorem ldN_lt (l : List UInt8) : ldN l < 9223372036854775808 := (nx_le (Nat.zero_le _)).2
/-- The table of which the bytes are the image. -/
def loadT (l : List UInt8) : Option (List St) := match ldT l (ldN l) with
  | some (L, _) => if imgT L = l then some L else none
  | none => none
theorem loadT_img {l : List UInt8} {L : List St} (h : loadT l = some L) : imgT L = l ∧ TbOk L := by
  unfold loadT at h
  split at h
  · rename_i L' st hl
    split at h
    · rename_i he
      injection h with h
      subst h
      exact ⟨he, (ldT_ok hl).1⟩
    · cases h
  · cases h
theorem loadT_of {l : List UInt8} {L : List St} {st : Nat × Nat} (h : ldT l (ldN l) = some (L, st)) : loadT l = if imgT L = l then some L else none := by
  unfold loadT
  rw [h]
theorem loadT_none {l : List UInt8} {i : Nat} (h : ldT l i = none) (hi : i ≤ ldN l) : loadT l = none := by
  unfold loadT
  have := ldT_none h (ldN l - i)
  rw [show i + (ldN l - i) = ldN l by omega] at this
  rw [this]
theorem insT_last : ∀ {L : List St} {x : St}, (∀ y ∈ L, y.s < x.s) → insT L x = L ++ [x]
  | [], x, _ => rfl
  | y :: r, x, h => by
    have h1 := h y (List.mem_cons_self ..)
    unfold insT
    rw [if_neg (by omega), if_neg (by omega), insT_last fun z hz => h z (List.mem_cons_of_mem _ hz)]
    rfl
theorem ldT_put {l : List UInt8} {L : List St} (hL : TbOk L) (h : l = imgT L) : ldN l = L.length ∧ ∀ i, i ≤ L.length → ∃ a, ldT l i = some (L.take i, (a, 0)) ∧ l.drop a = (L.drop i).flatMap bytesT := by
  have h0 : l.drop 0 = digits L.length ++ L.flatMap bytesT := by rw [h]; rfl
  have hn := nx_digits (by have := hL.len; omega) h0
  have hd := drop_more h0
  refine ⟨by unfold ldN; rw [hn], fun i => ?_⟩
  induction i with
  | zero =>
    intro _
    refine ⟨_, ?_, hd⟩
    unfold ldT
    rw [hn]
    rfl
  | succ i ih =>
    intro hi
    obtain ⟨a, ha, hda⟩ := ih (by omega)
    obtain ⟨x, hx⟩ : ∃ x, L[i]? = some x := ⟨_, List.getElem?_eq_getElem (by omega)⟩
    have hxo := hL.ok x (List.mem_of_getElem? hx)
    have hcons : L.drop i = x :: L.drop (i + 1) := by
      obtain ⟨hlt, rfl⟩ := List.getElem?_eq_some_iff.1 hx
      exact List.drop_eq_getElem_cons hlt
    rw [hcons, List.flatMap_cons] at hda
    obtain ⟨hnx, hdr⟩ := nextT_put hxo hda
    refine ⟨_, ?_, hdr⟩
    have hlen := hL.len
    rw [ldT_succ ha, hnx]
    dsimp only
    rw [if_pos (by simp [hxo, List.length_take]; omega), insT_last (fun y hy => ?_), List.take_add_one, hx]
    · rfl
    · obtain ⟨j, hj, rfl⟩ := List.getElem_of_mem hy
      rw [List.length_take] at hj
      rw [List.getElem_take]
      obtain ⟨hlt, rfl⟩ := List.getElem?_eq_some_iff.1 hx
      exact List.pairwise_iff_getElem.1 hL.rises j i (by omega) hlt (by omega)
theorem loadT_put {L : List St} (hL : TbOk L) : loadT (imgT L) = some L := by
  obtain ⟨h1, h2⟩ := ldT_put hL rfl
  obtain ⟨a, ha, _⟩ := h2 L.length (Nat.le_refl _)
  rw [List.take_length] at ha
  rw [← h1] at ha
  rw [loadT_of ha, if_pos rfl]
end Go.Proofs.Ytfbndbmhnpleoaa
