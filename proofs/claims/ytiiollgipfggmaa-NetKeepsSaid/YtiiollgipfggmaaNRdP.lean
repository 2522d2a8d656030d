/- What bytes say of a message, plainly. -/
import Derived.Test.YtiiollgipfggmaaNPay
namespace Go.Proofs.Ytiiollgipfggmaa
set_option linter.unusedVariables false
set_option linter.unusedSimpArgs false

/-- A text behind a place, as long as may be. -/
def xl (l : List UInt8) (st : Nat × Nat) : List UInt8 × Nat × Nat := tx l (l.length - st.1) st
theorem xl_le {l : List UInt8} {st : Nat × Nat} (h : st.1 ≤ l.length) : (xl l st).2.1 ≤ l.length ∧ (xl l st).1.length ≤ l.length := tx_le h
def idxE (ix : Int) (k : Nat) : Int := IntKind.i64.wrap (IntKind.i64.wrap (ix + 1) + (k : Int))
/-- So many entries behind a place. -/
def rdEs (l : List UInt8) (ix : Int) : Nat → Nat × Nat → List En × Nat × Nat
  | 0, st => ([], st)
  | k + 1, st => ((rdEs l ix k st).1 ++ [⟨idxE ix k, ((nx l (rdEs l ix k st).2).1 : Nat), (xl l (nx l (rdEs l ix k st).2).2).1⟩], (xl l (nx l (rdEs l ix k st).2).2).2)
def rdNs (l : List UInt8) : Nat → Nat × Nat → List Int × Nat × Nat
  | 0, st => ([], st)
  | k + 1, st => ((rdNs l k st).1 ++ [((nx l (rdNs l k st).2).1 : Int)], (nx l (rdNs l k st).2).2)
theorem rdEs_le {l : List UInt8} {ix : Int} {st : Nat × Nat} (h : st.1 ≤ l.length) : ∀ k, (rdEs l ix k st).2.1 ≤ l.length ∧ (rdEs l ix k st).1.length = k
  | 0 => ⟨h, rfl⟩
  | k + 1 => by
    have ih := rdEs_le (ix := ix) h k
    unfold rdEs
    exact ⟨(xl_le (nx_le ih.1).1).1, by rw [List.length_append, ih.2]; rfl⟩
theorem rdNs_le {l : List UInt8} {st : Nat × Nat} (h : st.1 ≤ l.length) : ∀ k, (rdNs l k st).2.1 ≤ l.length ∧ (rdNs l k st).1.length = k
  | 0 => ⟨h, rfl⟩
  | k + 1 => by
    have ih := rdNs_le h k
    unfold rdNs
    exact ⟨(nx_le ih.1).1, by rw [List.length_append, ih.2]; rfl⟩
/-- The head: ten fields, and the place behind. -/
def rdH (l : List UInt8) : Ms × Nat × Nat :=
  let r1 := nx l (0, 0)
  let r2 := nx l r1.2
  let r3 := nx l r2.2
  let r4 := nx l r3.2
  let r5 := nx l r4.2
  let r6 := nx l r5.2
  let r7 := nx l r6.2
  let r8 := nx l r7.2
  let f1 := fx l r8.2
  let f2 := fx l f1.2
  (⟨r1.1, r2.1, r3.1, r4.1, r5.1, r6.1, r7.1, r8.1, f1.1, f2.1, [], [], []⟩, f2.2)
theorem rdH_le (l : List UInt8) : (rdH l).2.1 ≤ l.length := by
  unfold rdH
  dsimp only
  exact fx_le (fx_le (nx_le (nx_le (nx_le (nx_le (nx_le (nx_le (nx_le (nx_le (Nat.zero_le _)).1).1).1).1).1).1).1).1)
theorem nx_fits {l : List UInt8} {st : Nat × Nat} (h : st.1 ≤ l.length) : fits ((nx l st).1 : Nat) := by
  have := (nx_le h).2
  unfold fits
  omega
theorem rdH_fits (l : List UInt8) : (rdH l).1.Fits := by
  have h1 : (0, 0).1 ≤ l.length := Nat.zero_le _
  have h2 := (nx_le h1).1
  have h3 := (nx_le h2).1
  have h4 := (nx_le h3).1
  have h5 := (nx_le h4).1
  have h6 := (nx_le h5).1
  have h7 := (nx_le h6).1
  have h8 := (nx_le h7).1
  intro x hx
  simp only [Ms.nums, rdH, List.mem_cons, List.not_mem_nil, or_false] at hx
  rcases hx with rfl | rfl | rfl | rfl | rfl | rfl | rfl | rfl
  · exact nx_fits h1
  · exact nx_fits h2
  · exact nx_fits h3
  · exact nx_fits h4
  · exact nx_fits h5
  · exact nx_fits h6
  · exact nx_fits h7
  · exact nx_fits h8
/-- What bytes say. -/
def rdC (l : List UInt8) : Nat × Nat × Nat := nx l (rdH l).2
def rdE (l : List UInt8) : List En × Nat × Nat := rdEs l (rdH l).1.ix (min (rdC l).1 8) (rdC l).2
def rdV (l : List UInt8) : Nat × Nat × Nat := nx l (rdE l).2
def rdW (l : List UInt8) : List Int × Nat × Nat := rdNs l (min (rdV l).1 7) (rdV l).2
def rdD (l : List UInt8) : List UInt8 × Nat × Nat := xl l (rdW l).2
def readP (l : List UInt8) : Ms := { (rdH l).1 with es := (rdE l).1, vs := (rdW l).1, d := (rdD l).1 }
theorem rdC_le (l : List UInt8) : (rdC l).2.1 ≤ l.length := by
  unfold rdC
  exact (nx_le (rdH_le l)).1
theorem rdE_le (l : List UInt8) : (rdE l).2.1 ≤ l.length := by
  unfold rdE
  exact (rdEs_le (rdC_le l) _).1
theorem rdV_le (l : List UInt8) : (rdV l).2.1 ≤ l.length := by
  unfold rdV
  exact (nx_le (rdE_le l)).1
theorem rdW_le (l : List UInt8) : (rdW l).2.1 ≤ l.length := by
  unfold rdW
  exact (rdNs_le (rdV_le l) _).1
theorem rdEs_fits {l : List UInt8} {ix : Int} {st : Nat × Nat} (h : st.1 ≤ l.length) : ∀ k, ∀ e ∈ (rdEs l ix k st).1, e.fits
  | 0, e, he => by cases he
  | k + 1, e, he => by
    unfold rdEs at he
    rcases List.mem_append.1 he with he | he
    · exact rdEs_fits h k e he
    · simp only [List.mem_singleton] at he
      subst he
      refine ⟨?_, nx_fits (rdEs_le h k).1⟩
      show fits (idxE ix k)
      unfold fits idxE
      rw [IntKind.wrap_i64]
      omega
theorem rdNs_fits {l : List UInt8} {st : Nat × Nat} (h : st.1 ≤ l.length) : ∀ k, ∀ x ∈ (rdNs l k st).1, fits x
  | 0, e, he => by cases he
  | k + 1, e, he => by
    unfold rdNs at he
    rcases List.mem_append.1 he with he | he
    · exact rdNs_fits h k e he
    · simp only [List.mem_singleton] at he
      subst he
      exact nx_fits (rdNs_le h k).1
/-- Entries are read as they were put. -/
theorem rdEs_put {l : List UInt8} {ix : Int} {a : Nat} {r : List UInt8} (hl : l.length ≤ 1000000) (hix : 0 ≤ ix ∧ ix ≤ 1099511627776) : ∀ (k : Nat) {es : List En}, k ≤ es.length → es.length ≤ 8 → (∀ (j : Nat) e, es[j]? = some e → e.i = ix + j + 1 ∧ 0 ≤ e.t ∧ e.t ≤ 1099511627776 ∧ e.d.length ≤ 4096) → a ≤ l.length → l.drop a = esB es ++ r →
    rdEs l ix k (a, 0) = (es.take k, a + (esB (es.take k)).length, 0)
  | 0, es, _, _, _, _, _ => by simp [rdEs, esB]
  | k + 1, es, hk, h8, he, ha, h => by
    have ih := rdEs_put (l := l) (ix := ix) (a := a) (r := r) hl hix k (by omega) h8 he ha h
    obtain ⟨e, hee⟩ : ∃ e, es[k]? = some e := ⟨_, List.getElem?_eq_getElem (by omega)⟩
    have hT : es.take (k + 1) = es.take k ++ [e] := by rw [List.take_add_one, hee]; rfl
    obtain ⟨h1, h2, h3, h4⟩ := he k e hee
    have hsp : esB es = esB (es.take k) ++ (enB e ++ esB (es.drop (k + 1))) := by
      have : es = es.take k ++ (e :: es.drop (k + 1)) := by
        have h5 := List.drop_eq_getElem_cons (l := es) (i := k) (by omega)
        have h6 : es[k] = e := by rw [List.getElem?_eq_getElem (by omega)] at hee; exact Option.some.inj hee
        rw [h6] at h5
        rw [← h5, List.take_append_drop]
      conv => lhs; rw [this]
      unfold esB
      rw [List.map_append, List.flatten_append, List.map_cons, List.flatten_cons]
    rw [hsp] at h
    have hlen := congrArg List.length h
    simp only [List.length_drop, List.length_append] at hlen
    simp only [List.append_assoc] at h
    have g1 := drop_more h
    unfold enB numB at g1
    simp only [List.append_assoc] at g1
    have n1 := nx_digits (l := l) (a := a + (esB (es.take k)).length) (n := e.t.toNat) (by omega) g1
    have g2 := drop_more g1
    have hnb : (enB e).length = (digits e.t.toNat).length + ((digits e.d.length).length + e.d.length) := by
      unfold enB numB
      rw [List.length_append, List.length_append]
    have n2 := tx_digits (l := l) (most := l.length - (a + (esB (es.take k)).length + (digits e.t.toNat).length)) (x := e.d) (by omega) hl (by omega) g2
    unfold rdEs
    rw [ih]
    dsimp only
    rw [n1]
    dsimp only
    unfold xl
    dsimp only
    rw [n2, hT, esB_snoc, List.length_append, hnb]
    dsimp only
    have hi : idxE ix k = e.i := by
      unfold idxE
      rw [IntKind.wrap_i64, IntKind.wrap_i64, h1]
      omega
    have ht : ((e.t.toNat : Nat) : Int) = e.t := by omega
    rw [hi, ht]
    simp only [Prod.mk.injEq, and_true, true_and]
    omega
theorem rdNs_put {l : List UInt8} {a : Nat} {r : List UInt8} : ∀ (k : Nat) {vs : List Int}, k ≤ vs.length → (∀ x ∈ vs, 0 ≤ x ∧ x ≤ 1099511627776) → l.drop a = nsB vs ++ r → rdNs l k (a, 0) = (vs.take k, a + (nsB (vs.take k)).length, 0)
  | 0, vs, _, _, _ => by simp [rdNs, nsB]
  | k + 1, vs, hk, he, h => by
    have ih := rdNs_put (l := l) (a := a) (r := r) k (by omega) he h
    obtain ⟨x, hxx⟩ : ∃ x, vs[k]? = some x := ⟨_, List.getElem?_eq_getElem (by omega)⟩
    have hT : vs.take (k + 1) = vs.take k ++ [x] := by rw [List.take_add_one, hxx]; rfl
    have h1 := he x (List.mem_of_getElem? hxx)
    have hsp : nsB vs = nsB (vs.take k) ++ (numB x ++ nsB (vs.drop (k + 1))) := by
      have : vs = vs.take k ++ (x :: vs.drop (k + 1)) := by
        have h5 := List.drop_eq_getElem_cons (l := vs) (i := k) (by omega)
        have h6 : vs[k] = x := by rw [List.getElem?_eq_getElem (by omega)] at hxx; exact Option.some.inj hxx
        rw [h6] at h5
        rw [← h5, List.take_append_drop]
      conv => lhs; rw [this]
      unfold nsB
      rw [List.map_append, List.flatten_append, List.map_cons, List.flatten_cons]
    rw [hsp] at h
    simp only [List.append_assoc] at h
    have g1 := drop_more h
    unfold numB at g1
    have n1 := nx_digits (l := l) (a := a + (nsB (vs.take k)).length) (n := x.toNat) (by omega) g1
    unfold rdNs
    rw [ih]
    dsimp only
    rw [n1, hT, nsB_snoc, List.length_append]
    dsimp only
    have ht : ((x.toNat : Nat) : Int) = x := by omega
    rw [ht]
    simp only [numB, Nat.add_assoc]
/-- A message that may be is read as it was put. -/
theorem readP_pay {m : Ms} (h : MOk m) (hl : (payL m).length ≤ 1000000) : readP (payL m) = m ∧ (rdD (payL m)).2 = ((payL m).length, 0) := by
  obtain ⟨es8, ed, et, ei, vs7, vv, d5, ns⟩ := h
  obtain ⟨k, f, t, tm, ix, lt, cm, rd, ys, dn, es, vs, d⟩ := m
  dsimp only at es8 ed et ei vs7 vv d5
  have b1 := ns k (by simp [Ms.nums])
  have b2 := ns f (by simp [Ms.nums])
  have b3 := ns t (by simp [Ms.nums])
  have b4 := ns tm (by simp [Ms.nums])
  have b5 := ns ix (by simp [Ms.nums])
  have b6 := ns lt (by simp [Ms.nums])
  have b7 := ns cm (by simp [Ms.nums])
  have b8 := ns rd (by simp [Ms.nums])
  obtain ⟨l, hll⟩ : ∃ l, payL ⟨k, f, t, tm, ix, lt, cm, rd, ys, dn, es, vs, d⟩ = l := ⟨_, rfl⟩
  rw [hll] at hl ⊢
  have h0 : l.drop 0 = digits k.toNat ++ (digits f.toNat ++ (digits t.toNat ++ (digits tm.toNat ++ (digits ix.toNat ++ (digits lt.toNat ++ (digits cm.toNat ++ (digits rd.toNat ++ (digits ys.toNat ++ (digits dn.toNat ++ (digits es.length ++ (esB es ++ (digits vs.length ++ (nsB vs ++ (digits d.length ++ (d ++ []))))))))))))))) := by
    rw [List.drop_zero, ← hll]
    simp [payL, headB, Ms.nums, nsB, numB]
  have hlen := congrArg List.length h0
  simp only [List.length_drop, List.length_append, List.length_nil] at hlen
  have q1 := nx_digits (n := k.toNat) (by omega) h0
  have g1 := drop_more h0
  have q2 := nx_digits (n := f.toNat) (by omega) g1
  have g2 := drop_more g1
  have q3 := nx_digits (n := t.toNat) (by omega) g2
  have g3 := drop_more g2
  have q4 := nx_digits (n := tm.toNat) (by omega) g3
  have g4 := drop_more g3
  have q5 := nx_digits (n := ix.toNat) (by omega) g4
  have g5 := drop_more g4
  have q6 := nx_digits (n := lt.toNat) (by omega) g5
  have g6 := drop_more g5
  have q7 := nx_digits (n := cm.toNat) (by omega) g6
  have g7 := drop_more g6
  have q8 := nx_digits (n := rd.toNat) (by omega) g7
  have g8 := drop_more g7
  have q9 := fx_digits g8
  have g9 := drop_more g8
  have q10 := fx_digits g9
  have g10 := drop_more g9
  have q11 := nx_digits (n := es.length) (by omega) g10
  have g11 := drop_more g10
  have hH : rdH l = (⟨k, f, t, tm, ix, lt, cm, rd, ys, dn, [], [], []⟩, 0 + (digits k.toNat).length + (digits f.toNat).length + (digits t.toNat).length + (digits tm.toNat).length + (digits ix.toNat).length + (digits lt.toNat).length + (digits cm.toNat).length + (digits rd.toNat).length + (digits ys.toNat).length + (digits dn.toNat).length, 0) := by
    unfold rdH
    simp only [q1, q2, q3, q4, q5, q6, q7, q8, q9, q10]
    rw [show ((k.toNat : Nat) : Int) = k by omega, show ((f.toNat : Nat) : Int) = f by omega, show ((t.toNat : Nat) : Int) = t by omega, show ((tm.toNat : Nat) : Int) = tm by omega, show ((ix.toNat : Nat) : Int) = ix by omega, show ((lt.toNat : Nat) : Int) = lt by omega, show ((cm.toNat : Nat) : Int) = cm by omega, show ((rd.toNat : Nat) : Int) = rd by omega]
  obtain ⟨A, hA⟩ : ∃ A, 0 + (digits k.toNat).length + (digits f.toNat).length + (digits t.toNat).length + (digits tm.toNat).length + (digits ix.toNat).length + (digits lt.toNat).length + (digits cm.toNat).length + (digits rd.toNat).length + (digits ys.toNat).length + (digits dn.toNat).length = A := ⟨_, rfl⟩
  rw [hA] at hH q11 g11
  have hC : rdC l = (es.length, A + (digits es.length).length, 0) := by unfold rdC; rw [hH]; exact q11
  have hE : rdE l = (es, A + (digits es.length).length + (esB es).length, 0) := by
    have := rdEs_put (ix := ix) hl b5 es.length (Nat.le_refl _) es8 (fun j e hj => ⟨ei j e hj, (et e (List.mem_of_getElem? hj)).1, (et e (List.mem_of_getElem? hj)).2, ed e (List.mem_of_getElem? hj)⟩) (by omega) g11
    rw [List.take_length] at this
    unfold rdE
    rw [hC, hH]
    dsimp only
    rw [Nat.min_eq_left es8]
    exact this
  have g12 := drop_more g11
  have q12 := nx_digits (n := vs.length) (by omega) g12
  have g13 := drop_more g12
  have hV : rdV l = (vs.length, A + (digits es.length).length + (esB es).length + (digits vs.length).length, 0) := by unfold rdV; rw [hE]; exact q12
  have hW : rdW l = (vs, A + (digits es.length).length + (esB es).length + (digits vs.length).length + (nsB vs).length, 0) := by
    have := rdNs_put vs.length (Nat.le_refl _) (fun x hx => by have := vv x hx; omega) g13
    rw [List.take_length] at this
    unfold rdW
    rw [hV]
    dsimp only
    rw [Nat.min_eq_left vs7]
    exact this
  have g14 := drop_more g13
  have hD : rdD l = (d, l.length, 0) := by
    have := tx_digits (l := l) (most := l.length - (A + (digits es.length).length + (esB es).length + (digits vs.length).length + (nsB vs).length)) (x := d) (by omega) hl (by omega) g14
    unfold rdD xl
    rw [hW]
    dsimp only
    rw [this]
    simp only [Prod.mk.injEq, and_true, true_and]
    omega
  refine ⟨?_, by rw [hD]⟩
  unfold readP
  rw [hH, hE, hW, hD]
end Go.Proofs.Ytiiollgipfggmaa
