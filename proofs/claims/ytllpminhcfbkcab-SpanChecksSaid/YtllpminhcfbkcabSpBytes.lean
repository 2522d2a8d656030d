/- One span's bytes: the program's and the document's. -/
import Derived.Test.YtllpminhcfbkcabSpCheck
namespace Go.Proofs.Ytllpminhcfbkcab
set_option linter.unusedVariables false
set_option linter.unusedSimpArgs false
open Go.RowKit

/-- Numbers' bytes. -/
def flatD (l : List Int) : List UInt8 := (l.map fun z => digits z.toNat).flatten
theorem flatD_succ {l : List Int} {k : Nat} {z : Int} (h : l[k]? = some z) : flatD (l.take (k + 1)) = flatD (l.take k) ++ digits z.toNat := by
  unfold flatD
  rw [List.take_add_one, h]
  simp
theorem flatD_len (l : List Int) (h : ∀ z ∈ l, z ≤ 1099511627776) (k : Nat) : (flatD (l.take k)).length ≤ 9 * l.length := by
  have one : ∀ m : List Int, (∀ z ∈ m, z ≤ 1099511627776) → (flatD m).length ≤ 9 * m.length := by
    intro m
    induction m with
    | nil => intro _; simp [flatD]
    | cons x r ih =>
      intro hm
      have := ih fun z hz => hm z (by simp [hz])
      have h1 := digits_length x.toNat (by have := hm x (by simp); omega)
      simp only [flatD, List.map_cons, List.flatten_cons, List.length_append, List.length_cons] at this ⊢
      omega
  have := one (l.take k) fun z hz => h z (List.mem_of_mem_take hz)
  rw [List.length_take] at this
  omega
theorem refNumber_own {w : World} {v : Value} {l : List UInt8} (hv : By w v l) (hl : l.length ≤ 140737488000000) (n : Int) (N : Nat) (hN : max n 0 = (N : Int)) (hn2 : N < lim) :
    Calls Try.prog 34 #[v, .int .i64 n] w fun e w' => ∃ v', e = .returned v' ∧ Own w.heap.size w' v' (l ++ digits N) ∧ Below w.heap.size w w' :=
  (refNumber_any hv hl n N hN hn2).mono fun _ _ ⟨v', he, ho, hb⟩ => ⟨v', he, Own.of_row ho, hb⟩
theorem Sp.Ok.nums {t i p s e : Int} {n : ByteArray} (h : Sp.Ok ⟨t, i, p, s, e, n⟩) : ∀ z ∈ [t, i, p, s, e - s], 0 ≤ z ∧ z ≤ 1099511627776 := by
  obtain ⟨t1, t2, i1, i2, p1, p2, s1, s2, e2, _, _, _, _⟩ := h
  dsimp only at *
  intro z hz
  simp only [List.mem_cons, List.not_mem_nil, or_false] at hz
  rcases hz with rfl | rfl | rfl | rfl | rfl <;> omega

set_option maxRecDepth 200000 in
set_option maxHeartbeats 1000000 in
/-- One span's bytes. -/
theorem bytesOf_any (x : Sp) (hok : x.ok = true) (w : World) : Calls Try.prog 32 #[spV x] w fun e w' => ∃ v', e = .returned v' ∧ Own w.heap.size w' v' x.bytes ∧ Below w.heap.size w w' := by
  have hk := (Sp.ok_iff x).1 hok
  obtain ⟨t, i, p, s, e, n⟩ := x
  have hz := hk.nums
  have hby : Sp.bytes ⟨t, i, p, s, e, n⟩ = flatD [t, i, p, s, e - s] ++ digits n.size ++ n.data.toList := by
    have hl : n.data.toList.length = n.size := by rw [Array.length_toList]; rfl
    unfold Sp.bytes flatD Sp.nl
    simp [hl]
  have hns : n.size ≤ 32 := by
    have := hk.n2
    have hl : n.data.toList.length = n.size := by rw [Array.length_toList]; rfl
    have h2 : n.data.toList.length ≤ 32 := this
    omega
  rw [hby]
  have hs1 := hk.s1
  have hs2 := hk.s2
  have he2 : e ≤ 9223372036854775807 := Int.le_trans hk.e2 (by decide)
  have hse : e - s ≤ 9223372036854775807 := by dsimp only at hs1; omega
  have hse0 : 0 ≤ e - s := by dsimp only at hs2; omega
  have hwr : IntKind.i64.wrap (e - s) = e - s := by rw [IntKind.wrap_i64]; omega
  have HZ := hide hz
  clear hk hok hz hby
  unfold spV
  dsimp only at *
  obtain ⟨X, hX⟩ : ∃ X, (w.alloc (.cells #[.int .i64 t, .int .i64 i, .int .i64 p, .int .i64 s, .int .i64 e, .string n] 23)).alloc (.cells #[.int .i64 t, .int .i64 i, .int .i64 p, .int .i64 s, .int .i64 (e - s)] 3) = X := ⟨_, rfl⟩
  have hlit : ∀ (k : Nat) z, [t, i, p, s, e - s][k]? = some z → X.cell? ⟨w.heap.size + 1, k, none⟩ = some (.int .i64 z) := by
    rw [← hX]
    intro k z hk
    rw [cell_of_row _ (w.heap.size + 1) k _ 3 (0, 0) (by have := heap_alloc_new (w.alloc (.cells #[.int .i64 t, .int .i64 i, .int .i64 p, .int .i64 s, .int .i64 e, .string n] 23)) (.cells #[.int .i64 t, .int .i64 i, .int .i64 p, .int .i64 s, .int .i64 (e - s)] 3); simpa using this)]
    match k, hk with
    | 0, hk => simp at hk; subst hk; rfl
    | 1, hk => simp at hk; subst hk; rfl
    | 2, hk => simp at hk; subst hk; rfl
    | 3, hk => simp at hk; subst hk; rfl
    | 4, hk => simp at hk; subst hk; rfl
  have hname : X.cell? ⟨w.heap.size, 5, none⟩ = some (.string n) := by
    rw [← hX]
    have := (spAt_new w ⟨t, i, p, s, e, n⟩).c5
    exact ((Below.refl _ _).alloc (Nat.le_refl _) _).cell (lt_of_cell this) |>.trans this
  have hXb : Below w.heap.size w X := by rw [← hX]; exact ((Below.refl _ _).alloc (Nat.le_refl _) _).alloc (by simp) _
  have hXs : X.heap.size = w.heap.size + 2 := by rw [← hX]; simp
  have HL := hide hlit
  have HNM := hide hname
  have HXB := hide hXb
  have HXS := hide hXs
  clear hlit hname hXb hXs
  go_enter Try.func32, Try.ntmps32
  go_wp2_with fail
  clear hX hwr
  go_loopw [3, 5, 21] (fun v _ c wr => ∃ k : Nat, k ≤ 5 ∧ c = .int .i64 k ∧ Hid (Own X.heap.size wr v (flatD ([t, i, p, s, e - s].take k)) ∧ Below X.heap.size X wr)) (fun _ _ c _ => 5 - (intOf c).toNat)
  case atStart => exact ⟨0, by omega, rfl, hide ⟨Own.nil _ _, Below.refl _ _⟩⟩
  case round =>
    obtain ⟨k, hk, rfl, HR⟩ := hrel
    by_cases hlt : (k : Int) < 5
    · obtain ⟨z, hz⟩ : ∃ z, [t, i, p, s, e - s][k]? = some z := ⟨_, List.getElem?_eq_getElem (by simp; omega)⟩
      have hz2 := HZ.out z (List.mem_of_getElem? hz)
      have hcell := HL.out k z hz
      have hcell := (HR.out.2.cell (lt_of_cell hcell)).trans hcell
      have HZ2 := hide hz2
      have HZK := hide hz
      have hle : (flatD ([t, i, p, s, e - s].take k)).length ≤ 45 := flatD_len [t, i, p, s, e - s] (by intro y hy; exact (HZ.out y hy).2) k
      have HLE := hide hle
      clear hz hz2 hle
      go_wp2_with fail
      refine (wireNumber_any (HR.out.1.by_) (by have := HLE.out; omega) z z.toNat (by have := HZ2.out.1; omega) (by have := HZ2.out; unfold lim; omega)).mono ?_
      rintro e1 w1 ⟨v1, rfl, ho, hb⟩
      have HR1 : Hid (Own X.heap.size w1 v1 (flatD ([t, i, p, s, e - s].take (k + 1))) ∧ Below X.heap.size X w1) := hide ⟨by rw [flatD_succ HZK.out]; exact ho.mono HR.out.2.size, HR.out.2.trans (hb.mono HR.out.2.size)⟩
      clear ho hb hcell
      go_wp2
      go_roundw
      case rel => exact ⟨k + 1, by omega, by go_num, HR1⟩
      case measure => simp [intOf]; omega
    · obtain rfl : k = 5 := by omega
      have hcell := (HR.out.2.cell (lt_of_cell HNM.out)).trans HNM.out
      have hle : (flatD ([t, i, p, s, e - s].take 5)).length ≤ 45 := flatD_len [t, i, p, s, e - s] (by intro y hy; exact (HZ.out y hy).2) 5
      have HLE := hide hle
      clear hle
      go_wp2_with fail
      refine (wireText_any (HR.out.1.by_) (by have := HLE.out; omega) n (by omega)).mono ?_
      rintro e1 w1 ⟨v1, rfl, ho, hb⟩
      have HO := hide ho
      have HB := hide hb
      clear ho hb hcell
      go_wp2
      go_ret
      have hsz := HR.out.2.size
      have hxs := HXS.out
      exact ⟨_, rfl, HO.out.mono (by omega), (HXB.out.trans (HR.out.2.mono (by omega))).trans (HB.out.mono (by omega))⟩

set_option maxRecDepth 200000 in
set_option maxHeartbeats 1000000 in
/-- One span's bytes. -/
theorem refBytes_any (x : Sp) (hok : x.ok = true) (w : World) : Calls Try.prog 35 #[spV x] w fun e w' => ∃ v', e = .returned v' ∧ Own w.heap.size w' v' x.bytes ∧ Below w.heap.size w w' := by
  have hk := (Sp.ok_iff x).1 hok
  obtain ⟨t, i, p, s, e, n⟩ := x
  have hz := hk.nums
  have hby : Sp.bytes ⟨t, i, p, s, e, n⟩ = flatD [t, i, p, s, e - s] ++ digits n.size ++ n.data.toList := by
    have hl : n.data.toList.length = n.size := by rw [Array.length_toList]; rfl
    unfold Sp.bytes flatD Sp.nl
    simp [hl]
  have hns : n.size ≤ 32 := by
    have := hk.n2
    have hl : n.data.toList.length = n.size := by rw [Array.length_toList]; rfl
    have h2 : n.data.toList.length ≤ 32 := this
    omega
  rw [hby]
  have hs1 := hk.s1
  have hs2 := hk.s2
  have he2 : e ≤ 9223372036854775807 := Int.le_trans hk.e2 (by decide)
  have hse : e - s ≤ 9223372036854775807 := by dsimp only at hs1; omega
  have hse0 : 0 ≤ e - s := by dsimp only at hs2; omega
  have hwr : IntKind.i64.wrap (e - s) = e - s := by rw [IntKind.wrap_i64]; omega
  have HZ := hide hz
  clear hk hok hz hby
  unfold spV
  dsimp only at *
  obtain ⟨X, hX⟩ : ∃ X, (w.alloc (.cells #[.int .i64 t, .int .i64 i, .int .i64 p, .int .i64 s, .int .i64 e, .string n] 23)).alloc (.cells #[.int .i64 t, .int .i64 i, .int .i64 p, .int .i64 s, .int .i64 (e - s)] 3) = X := ⟨_, rfl⟩
  have hlit : ∀ (k : Nat) z, [t, i, p, s, e - s][k]? = some z → X.cell? ⟨w.heap.size + 1, k, none⟩ = some (.int .i64 z) := by
    rw [← hX]
    intro k z hk
    rw [cell_of_row _ (w.heap.size + 1) k _ 3 (0, 0) (by have := heap_alloc_new (w.alloc (.cells #[.int .i64 t, .int .i64 i, .int .i64 p, .int .i64 s, .int .i64 e, .string n] 23)) (.cells #[.int .i64 t, .int .i64 i, .int .i64 p, .int .i64 s, .int .i64 (e - s)] 3); simpa using this)]
    match k, hk with
    | 0, hk => simp at hk; subst hk; rfl
    | 1, hk => simp at hk; subst hk; rfl
    | 2, hk => simp at hk; subst hk; rfl
    | 3, hk => simp at hk; subst hk; rfl
    | 4, hk => simp at hk; subst hk; rfl
  have hname : X.cell? ⟨w.heap.size, 5, none⟩ = some (.string n) := by
    rw [← hX]
    have := (spAt_new w ⟨t, i, p, s, e, n⟩).c5
    exact ((Below.refl _ _).alloc (Nat.le_refl _) _).cell (lt_of_cell this) |>.trans this
  have hXb : Below w.heap.size w X := by rw [← hX]; exact ((Below.refl _ _).alloc (Nat.le_refl _) _).alloc (by simp) _
  have hXs : X.heap.size = w.heap.size + 2 := by rw [← hX]; simp
  have HL := hide hlit
  have HNM := hide hname
  have HXB := hide hXb
  have HXS := hide hXs
  clear hlit hname hXb hXs
  go_enter Try.func35, Try.ntmps35
  go_wp2_with fail
  clear hX hwr
  go_loopw [3, 5, 21] (fun v _ c wr => ∃ k : Nat, k ≤ 5 ∧ c = .int .i64 k ∧ Hid (Own X.heap.size wr v (flatD ([t, i, p, s, e - s].take k)) ∧ Below X.heap.size X wr)) (fun _ _ c _ => 5 - (intOf c).toNat)
  case atStart => exact ⟨0, by omega, rfl, hide ⟨Own.nil _ _, Below.refl _ _⟩⟩
  case round =>
    obtain ⟨k, hk, rfl, HR⟩ := hrel
    by_cases hlt : (k : Int) < 5
    · obtain ⟨z, hz⟩ : ∃ z, [t, i, p, s, e - s][k]? = some z := ⟨_, List.getElem?_eq_getElem (by simp; omega)⟩
      have hz2 := HZ.out z (List.mem_of_getElem? hz)
      have hcell := HL.out k z hz
      have hcell := (HR.out.2.cell (lt_of_cell hcell)).trans hcell
      have HZ2 := hide hz2
      have HZK := hide hz
      have hle : (flatD ([t, i, p, s, e - s].take k)).length ≤ 45 := flatD_len [t, i, p, s, e - s] (by intro y hy; exact (HZ.out y hy).2) k
      have HLE := hide hle
      clear hz hz2 hle
      go_wp2_with fail
      refine (refNumber_own (HR.out.1.by_) (by have := HLE.out; omega) z z.toNat (by have := HZ2.out.1; omega) (by have := HZ2.out; unfold lim; omega)).mono ?_
      rintro e1 w1 ⟨v1, rfl, ho, hb⟩
      have HR1 : Hid (Own X.heap.size w1 v1 (flatD ([t, i, p, s, e - s].take (k + 1))) ∧ Below X.heap.size X w1) := hide ⟨by rw [flatD_succ HZK.out]; exact ho.mono HR.out.2.size, HR.out.2.trans (hb.mono HR.out.2.size)⟩
      clear ho hb hcell
      go_wp2
      go_roundw
      case rel => exact ⟨k + 1, by omega, by go_num, HR1⟩
      case measure => simp [intOf]; omega
    · obtain rfl : k = 5 := by omega
      have hcell := (HR.out.2.cell (lt_of_cell HNM.out)).trans HNM.out
      have hle : (flatD ([t, i, p, s, e - s].take 5)).length ≤ 45 := flatD_len [t, i, p, s, e - s] (by intro y hy; exact (HZ.out y hy).2) 5
      have HLE := hide hle
      clear hle
      go_wp2_with fail
      refine (refText_any (HR.out.1.by_) (by have := HLE.out; omega) n (by omega)).mono ?_
      rintro e1 w1 ⟨v1, rfl, ho, hb⟩
      have HO := hide ho
      have HB := hide hb
      clear ho hb hcell
      go_wp2
      go_ret
      have hsz := HR.out.2.size
      have hxs := HXS.out
      exact ⟨_, rfl, HO.out.mono (by omega), (HXB.out.trans (HR.out.2.mono (by omega))).trans (HB.out.mono (by omega))⟩
end Go.Proofs.Ytllpminhcfbkcab
