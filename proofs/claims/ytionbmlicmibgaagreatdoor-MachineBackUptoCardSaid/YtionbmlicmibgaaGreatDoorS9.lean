import Derived.Test.YtionbmlicmibgaaGreatDoorS2
import Derived.Test.YtionbmlicmibgaaGreatDoorS1
import Derived.Test.YtionbmlicmibgaaGreatDoorS8
namespace Go.Proofs.YtionbmlicmibgaaGreatDoor
set_option linter.unusedVariables false
set_option linter.unusedSimpArgs false
open Go.RowKit
def flatD (l : List Int) : List UInt8 := (l.map fun z => digits z.toNat).flatten
theorem flatD_succ {l : List Int} {k : Nat} {z : Int} (h : l[k]? = some z) : flatD (l.take (k + 1)) = flatD (l.take k) ++ digits z.toNat := by
 unfold flatD
 rw [List.take_add_one, h]
 simp
theorem flatD_len (l : List Int) (h : ∀ z ∈ l, z ≤ 1099511627776) (k : Nat) : (flatD (l.take k)).length ≤ 9 * l.length := by
 have one : ∀ m : List Int, (∀ z ∈ m, z ≤ 1099511627776) → (flatD m).length ≤ 9 * m.length := by
  intro m
  induction m with
  | nil => intro _; simp [flatD]
  | cons x r ih =>
   intro hm
   have := ih fun z hz => hm z (by simp [hz])
   have h1 := digits_length x.toNat (by have := hm x (by simp); omega)
   simp only [flatD, List.map_cons, List.flatten_cons, List.length_append, List.length_cons] at this ⊢
   omega
 have := one (l.take k) fun z hz => h z (List.mem_of_mem_take hz)
 rw [List.length_take] at this
 omega
theorem refNumber_own {w : World} {v : Value} {l : List UInt8} (hv : By w v l) (hl : l.length ≤ 140737488000000) (n : Int) (N : Nat) (hN : max n 0 = (N : Int)) (hn2 : N < lim) :
  Calls Tryz.prog 56 #[v, .int .i64 n] w fun e w' => ∃ v', e = .returned v' ∧ Own w.heap.size w' v' (l ++ digits N) ∧ Below w.heap.size w w' :=
 (refNumber_any hv hl n N hN hn2).mono fun _ _ ⟨v', he, ho, hb⟩ => ⟨v', he, Own.of_row ho, hb⟩
theorem Sp.Ok.nums {t i p s e : Int} {n : ByteArray} (h : Sp.Ok ⟨t, i, p, s, e, n⟩) : ∀ z ∈ [t, i, p, s, e - s], 0 ≤ z ∧ z ≤ 1099511627776 := by
 obtain ⟨t1, t2, i1, i2, p1, p2, s1, s2, e2, _, _, _, _⟩ := h
 dsimp only at *
 intro z hz
 simp only [List.mem_cons, List.not_mem_nil, or_false] at hz
 rcases hz with rfl | rfl | rfl | rfl | rfl <;> omega
set_option maxRecDepth 200000 in
set_option maxHeartbeats 1100000 in
theorem bytesOf_any (x : Sp) (hok : x.ok = true) (w : World) : Calls Tryz.prog 101 #[spV x] w fun e w' => ∃ v', e = .returned v' ∧ Own w.heap.size w' v' x.bytes ∧ Below w.heap.size w w' := by
 have hk := (Sp.ok_iff x).1 hok
 obtain ⟨t, i, p, s, e, n⟩ := x
 have hz := hk.nums
 have hby : Sp.bytes ⟨t, i, p, s, e, n⟩ = flatD [t, i, p, s, e - s] ++ digits n.size ++ n.data.toList := by
  have hl : n.data.toList.length = n.size := by rw [Array.length_toList]; rfl
  unfold Sp.bytes flatD Sp.nl
  simp [hl]
 have hns : n.size ≤ 32 := by
  have := hk.n2
  have hl : n.data.toList.length = n.size := by rw [Array.length_toList]; rfl
  have h2 : n.data.toList.length ≤ 32 := this
  omega
 rw [hby]
 have hs1 := hk.s1
 have hs2 := hk.s2
 have he2 : e ≤ 9223372036854775807 := Int.le_trans hk.e2 (by decide)
 have hse : e - s ≤ 9223372036854775807 := by dsimp only at hs1; omega
 have hse0 : 0 ≤ e - s := by dsimp only at hs2; omega
 have hwr : IntKind.i64.wrap (e - s) = e - s := by rw [IntKind.wrap_i64]; omega
 have HZ := hide hz
 clear hk hok hz hby
 unfold spV
 dsimp only at *
 obtain ⟨X, hX⟩ : ∃ X, (w.alloc (.cells #[.int .i64 t, .int .i64 i, .int .i64 p, .int .i64 s, .int .i64 e, .string n] 30)).alloc (.cells #[.int .i64 t, .int .i64 i, .int .i64 p, .int .i64 s, .int .i64 (e - s)] 3) = X := ⟨_, rfl⟩
 have hlit : ∀ (k : Nat) z, [t, i, p, s, e - s][k]? = some z → X.cell? ⟨w.heap.size + 1, k, none⟩ = some (.int .i64 z) := by
  rw [← hX]
  intro k z hk
  rw [cell_of_row _ (w.heap.size + 1) k _ 3 (0, 0) (by have := heap_alloc_new (w.alloc (.cells #[.int .i64 t, .int .i64 i, .int .i64 p, .int .i64 s, .int .i64 e, .string n] 30)) (.cells #[.int .i64 t, .int .i64 i, .int .i64 p, .int .i64 s, .int .i64 (e - s)] 3); simpa using this)]
  match k, hk with
  | 0, hk => simp at hk; subst hk; rfl
  | 1, hk => simp at hk; subst hk; rfl
  | 2, hk => simp at hk; subst hk; rfl
  | 3, hk => simp at hk; subst hk; rfl
  | 4, hk => simp at hk; subst hk; rfl
 have hname : X.cell? ⟨w.heap.size, 5, none⟩ = some (.string n) := by
  rw [← hX]
  have := (spAt_new w ⟨t, i, p, s, e, n⟩).c5
  exact ((Below.refl _ _).alloc (Nat.le_refl _) _).cell (lt_of_cell this) |>.trans this
 have hXb : Below w.heap.size w X := by rw [← hX]; exact ((Below.refl _ _).alloc (Nat.le_refl _) _).alloc (by simp) _
 have hXs : X.heap.size = w.heap.size + 2 := by rw [← hX]; simp
 have HL := hide hlit
 have HNM := hide hname
 have HXB := hide hXb
 have HXS := hide hXs
 clear hlit hname hXb hXs
 go_enter Tryz.func101, Tryz.ntmps101
 go_wp2_with fail
 clear hX hwr
 go_loopw [3, 5, 21] (fun v _ c wr => ∃ k : Nat, k ≤ 5 ∧ c = .int .i64 k ∧ Hid (Own X.heap.size wr v (flatD ([t, i, p, s, e - s].take k)) ∧ Below X.heap.size X wr)) (fun _ _ c _ => 5 - (intOf c).toNat)
 case atStart => exact ⟨0, by omega, rfl, hide ⟨Own.nil _ _, Below.refl _ _⟩⟩
 case round =>
  obtain ⟨k, hk, rfl, HR⟩ := hrel
  by_cases hlt : (k : Int) < 5
  ·obtain ⟨z, hz⟩ : ∃ z, [t, i, p, s, e - s][k]? = some z := ⟨_, List.getElem?_eq_getElem (by simp; omega)⟩
   have hz2 := HZ.out z (List.mem_of_getElem? hz)
   have hcell := HL.out k z hz
   have hcell := (HR.out.2.cell (lt_of_cell hcell)).trans hcell
   have HZ2 := hide hz2
   have HZK := hide hz
   have hle : (flatD ([t, i, p, s, e - s].take k)).length ≤ 45 := flatD_len [t, i, p, s, e - s] (by intro y hy; exact (HZ.out y hy).2) k
   have HLE := hide hle
   clear hz hz2 hle
   go_wp2_with fail
   refine (wireNumber_any (HR.out.1.by_) (by have := HLE.out; omega) z z.toNat (by have := HZ2.out.1; omega) (by have := HZ2.out; unfold lim; omega)).mono ?_
   rintro e1 w1 ⟨v1, rfl, ho, hb⟩
   have HR1 : Hid (Own X.heap.size w1 v1 (flatD ([t, i, p, s, e - s].take (k + 1))) ∧ Below X.heap.size X w1) := hide ⟨by rw [flatD_succ HZK.out]; exact ho.mono HR.out.2.size, HR.out.2.trans (hb.mono HR.out.2.size)⟩
   clear ho hb hcell
   go_wp2
   go_roundw
   case rel => exact ⟨k + 1, by omega, by go_num, HR1⟩
   case measure => simp [intOf]; omega
  ·obtain rfl : k = 5 := by omega
   have hcell := (HR.out.2.cell (lt_of_cell HNM.out)).trans HNM.out
   have hle : (flatD ([t, i, p, s, e - s].take 5)).length ≤ 45 := flatD_len [t, i, p, s, e - s] (by intro y hy; exact (HZ.out y hy).2) 5
   have HLE := hide hle
   clear hle
   go_wp2_with fail
   refine (wireText_any (HR.out.1.by_) (by have := HLE.out; omega) n (by omega)).mono ?_
   rintro e1 w1 ⟨v1, rfl, ho, hb⟩
   have HO := hide ho
   have HB := hide hb
   clear ho hb hcell
   go_wp2
   go_ret
   have hsz := HR.out.2.size
   have hxs := HXS.out
   exact ⟨_, rfl, HO.out.mono (by omega), (HXB.out.trans (HR.out.2.mono (by omega))).trans (HB.out.mono (by omega))⟩
set_option maxRecDepth 200000 in
set_option maxHeartbeats 1100000 in
theorem refBytes_any (x : Sp) (hok : x.ok = true) (w : World) : Calls Tryz.prog 103 #[spV x] w fun e w' => ∃ v', e = .returned v' ∧ Own w.heap.size w' v' x.bytes ∧ Below w.heap.size w w' := by
 have hk := (Sp.ok_iff x).1 hok
 obtain ⟨t, i, p, s, e, n⟩ := x
 have hz := hk.nums
 have hby : Sp.bytes ⟨t, i, p, s, e, n⟩ = flatD [t, i, p, s, e - s] ++ digits n.size ++ n.data.toList := by
  have hl : n.data.toList.length = n.size := by rw [Array.length_toList]; rfl
  unfold Sp.bytes flatD Sp.nl
  simp [hl]
 have hns : n.size ≤ 32 := by
  have := hk.n2
  have hl : n.data.toList.length = n.size := by rw [Array.length_toList]; rfl
  have h2 : n.data.toList.length ≤ 32 := this
  omega
 rw [hby]
 have hs1 := hk.s1
 have hs2 := hk.s2
 have he2 : e ≤ 9223372036854775807 := Int.le_trans hk.e2 (by decide)
 have hse : e - s ≤ 9223372036854775807 := by dsimp only at hs1; omega
 have hse0 : 0 ≤ e - s := by dsimp only at hs2; omega
 have hwr : IntKind.i64.wrap (e - s) = e - s := by rw [IntKind.wrap_i64]; omega
 have HZ := hide hz
 clear hk hok hz hby
 unfold spV
 dsimp only at *
 obtain ⟨X, hX⟩ : ∃ X, (w.alloc (.cells #[.int .i64 t, .int .i64 i, .int .i64 p, .int .i64 s, .int .i64 e, .string n] 30)).alloc (.cells #[.int .i64 t, .int .i64 i, .int .i64 p, .int .i64 s, .int .i64 (e - s)] 3) = X := ⟨_, rfl⟩
 have hlit : ∀ (k : Nat) z, [t, i, p, s, e - s][k]? = some z → X.cell? ⟨w.heap.size + 1, k, none⟩ = some (.int .i64 z) := by
  rw [← hX]
  intro k z hk
  rw [cell_of_row _ (w.heap.size + 1) k _ 3 (0, 0) (by have := heap_alloc_new (w.alloc (.cells #[.int .i64 t, .int .i64 i, .int .i64 p, .int .i64 s, .int .i64 e, .string n] 30)) (.cells #[.int .i64 t, .int .i64 i, .int .i64 p, .int .i64 s, .int .i64 (e - s)] 3); simpa using this)]
  match k, hk with
  | 0, hk => simp at hk; subst hk; rfl
  | 1, hk => simp at hk; subst hk; rfl
  | 2, hk => simp at hk; subst hk; rfl
  | 3, hk => simp at hk; subst hk; rfl
  | 4, hk => simp at hk; subst hk; rfl
 have hname : X.cell? ⟨w.heap.size, 5, none⟩ = some (.string n) := by
  rw [← hX]
  have := (spAt_new w ⟨t, i, p, s, e, n⟩).c5
  exact ((Below.refl _ _).alloc (Nat.le_refl _) _).cell (lt_of_cell this) |>.trans this
 have hXb : Below w.heap.size w X := by rw [← hX]; exact ((Below.refl _ _).alloc (Nat.le_refl _) _).alloc (by simp) _
 have hXs : X.heap.size = w.heap.size + 2 := by rw [← hX]; simp
 have HL := hide hlit
 have HNM := hide hname
 have HXB := hide hXb
 have HXS := hide hXs
 clear hlit hname hXb hXs
 go_enter Tryz.func103, Tryz.ntmps103
 go_wp2_with fail
 clear hX hwr
 go_loopw [3, 5, 21] (fun v _ c wr => ∃ k : Nat, k ≤ 5 ∧ c = .int .i64 k ∧ Hid (Own X.heap.size wr v (flatD ([t, i, p, s, e - s].take k)) ∧ Below X.heap.size X wr)) (fun _ _ c _ => 5 - (intOf c).toNat)
 case atStart => exact ⟨0, by omega, rfl, hide ⟨Own.nil _ _, Below.refl _ _⟩⟩
 case round =>
  obtain ⟨k, hk, rfl, HR⟩ := hrel
  by_cases hlt : (k : Int) < 5
  ·obtain ⟨z, hz⟩ : ∃ z, [t, i, p, s, e - s][k]? = some z := ⟨_, List.getElem?_eq_getElem (by simp; omega)⟩
   have hz2 := HZ.out z (List.mem_of_getElem? hz)
   have hcell := HL.out k z hz
   have hcell := (HR.out.2.cell (lt_of_cell hcell)).trans hcell
   have HZ2 := hide hz2
   have HZK := hide hz
   have hle : (flatD ([t, i, p, s, e - s].take k)).length ≤ 45 := flatD_len [t, i, p, s, e - s] (by intro y hy; exact (HZ.out y hy).2) k
   have HLE := hide hle
   clear hz hz2 hle
   go_wp2_with fail
   refine (refNumber_own (HR.out.1.by_) (by have := HLE.out; omega) z z.toNat (by have := HZ2.out.1; omega) (by have := HZ2.out; unfold lim; omega)).mono ?_
   rintro e1 w1 ⟨v1, rfl, ho, hb⟩
   have HR1 : Hid (Own X.heap.size w1 v1 (flatD ([t, i, p, s, e - s].take (k + 1))) ∧ Below X.heap.size X w1) := hide ⟨by rw [flatD_succ HZK.out]; exact ho.mono HR.out.2.size, HR.out.2.trans (hb.mono HR.out.2.size)⟩
   clear ho hb hcell
   go_wp2
   go_roundw
   case rel => exact ⟨k + 1, by omega, by go_num, HR1⟩
   case measure => simp [intOf]; omega
  ·obtain rfl : k = 5 := by omega
   have hcell := (HR.out.2.cell (lt_of_cell HNM.out)).trans HNM.out
   have hle : (flatD ([t, i, p, s, e - s].take 5)).length ≤ 45 := flatD_len [t, i, p, s, e - s] (by intro y hy; exact (HZ.out y hy).2) 5
   have HLE := hide hle
   clear hle
   go_wp2_with fail
   refine (refText_any (HR.out.1.by_) (by have := HLE.out; omega) n (by omega)).mono ?_
   rintro e1 w1 ⟨v1, rfl, ho, hb⟩
   have HO := hide ho
   have HB := hide hb
   clear ho hb hcell
   go_wp2
   go_ret
   have hsz := HR.out.2.size
   have hxs := HXS.out
   exact ⟨_, rfl, HO.out.mono (by omega), (HXB.out.trans (HR.out.2.mono (by omega))).trans (HB.out.mono (by omega))⟩
end Go.Proofs.YtionbmlicmibgaaGreatDoor
namespace Go.Proofs.YtionbmlicmibgaaGreatDoor
set_option linter.unusedVariables false
set_option linter.unusedSimpArgs false
open Go.RowKit
def Apart (w : World) (v u : Value) (l : List UInt8) : Prop := l = [] ∨ ∀ k, u.ownBlock = some k → v.ownBlock ≠ some k ∧ k < w.heap.size
def Gath (B : Nat) (w : World) (v : Value) (xs : List (List UInt8)) : Prop :=
 ∃ us : List Value, us.length = xs.length ∧ w.ownsRow B 32 1 v xs.length us ∧ ∀ (i : Nat) u x, us[i]? = some u → xs[i]? = some x → By w u x ∧ Apart w v u x ∧ u.oneCell' = true
theorem Gath.below {B : Nat} {w w' : World} {v : Value} {xs : List (List UInt8)} (h : Gath B w v xs) (hb : Below w.heap.size w w') : Gath B w' v xs := by
 obtain ⟨us, hl, ho, hu⟩ := h
 refine ⟨us, hl, row_below ho hb, fun i u x h1 h2 => ?_⟩
 obtain ⟨g1, g2, g3⟩ := hu i u x h1 h2
 refine ⟨g1.below hb, ?_, g3⟩
 rcases g2 with g2 | g2
 ·exact .inl g2
 ·exact .inr fun k hk => ⟨(g2 k hk).1, Nat.lt_of_lt_of_le (g2 k hk).2 hb.size⟩
theorem Gath.bss {B : Nat} {w : World} {v : Value} {xs : List (List UInt8)} (h : Gath B w v xs) : Bss w v xs := by
 obtain ⟨us, hl, ho, hu⟩ := h
 rcases ho.2 with ⟨rfl, h0⟩ | ⟨g, cap, cur, rfl, hB, hg, hlc, hm, hs, ht⟩
 ·obtain rfl : xs = [] := List.eq_nil_of_length_eq_zero h0
  exact Bss.nil w
 ·refine Bss.of_parts (o := 0) rfl hlc hm hl (fun i u hi => ?_) fun i u x h1 h2 => (hu i u x h1 h2).1
  have := ho.cells (g := g) rfl i u hi
  rwa [add_lit0] at this
theorem Tryz.info32 : (Tryz.prog.info? 32).map (fun i => (i.zero, i.size, i.bytes)) = some (some (.slice none 0 0), 1, 24) := by kernel_rfl
theorem run_gather {B : Nat} {w : World} {v : Value} {xs : List (List UInt8)} (h : Gath B w v xs) {q : Option Addr} {m c : Nat} {x : List UInt8} (hx : By w (.slice q m c) x) (hap : Apart w v (.slice q m c) x) (hB : B ≤ w.heap.size) (hs : xs.length ≤ 1100000) :
  ∃ v' w', (Builtin.append_ #[155, 155] 155 #[v, .slice (some ⟨w.heap.size, 0, none⟩) 1 1]).run Tryz.prog (w.alloc (.cells #[.slice q m c] 32)) = .ok v' w' ∧ Gath B w' v' (xs ++ [x]) ∧ Below B w w' := by
 obtain ⟨us, hl, ho, hu⟩ := h
 obtain ⟨i0, hi0, hz0, hz1, hz2⟩ := info_parts Tryz.info32
 have hlt := ho.lt
 have ho' := ho.alloc (.cells #[.slice q m c] 32)
 obtain ⟨v', w', hr, h1, h2, _, h4⟩ := run_append_own_at (P := Tryz.prog) (w.alloc (.cells #[.slice q m c] 32)) B 155 155 32 i0 (.slice none 0 0) 1 24 Tryz.underlying155 hi0 hz0 hz1 hz2 rfl (by decide) v xs.length us ho' ⟨w.heap.size, 0, none⟩ 1 1 [.slice q m c] rfl
  (cell_new1 _ _ _) (fun u hu => by simp at hu; subst hu; rfl) (by simp only [maxLen]; omega) (by omega) (by simp; omega)
 have hb0 : Below B w (w.alloc (.cells #[.slice q m c] 32)) := (Below.refl _ _).alloc hB _
 refine ⟨v', w', hr, ⟨us ++ [.slice q m c], by simp [hl], by simpa using h1, fun i u y hi hy => ?_⟩, hb0.grown h2 (by simp; omega) fun k hk => (ho.lt k hk).1⟩
 have key : ∀ (u : Value) (y : List UInt8), By w u y → Apart w v u y → By w' u y ∧ Apart w' v' u y := fun u y hb ha => by
  refine ⟨(hb.alloc _).grown h2 ?_, ?_⟩
  ·rcases ha with rfl | ha
   ·exact .inl rfl
   ·exact .inr fun k hk => (ha k hk).1
  ·rcases ha with rfl | ha
   ·exact .inl rfl
   ·refine .inr fun k hk => ⟨?_, ?_⟩
    ·obtain ⟨n1, n2⟩ := ha k hk
     rcases h4 with e | e
     ·rw [e]
      exact n1
     ·rw [e]
      intro e2
      injection e2 with e2
      rw [size_alloc'] at e2
      omega
    ·have := h2.size
     rw [size_alloc'] at this
     have := (ha k hk).2
     omega
 by_cases hil : i < us.length
 ·rw [List.getElem?_append_left hil] at hi
  rw [List.getElem?_append_left (by omega)] at hy
  obtain ⟨g1, g2, g3⟩ := hu i u y hi hy
  obtain ⟨k1, k2⟩ := key u y g1 g2
  exact ⟨k1, k2, g3⟩
 ·have hi1 : i = us.length := by
   have := (List.getElem?_eq_some_iff.1 hi).1
   simp at this
   omega
  subst hi1
  rw [List.getElem?_append_right (Nat.le_refl _), Nat.sub_self] at hi
  rw [hl, List.getElem?_append_right (Nat.le_refl _), Nat.sub_self] at hy
  simp at hi hy
  subst hi hy
  obtain ⟨k1, k2⟩ := key _ _ hx hap
  exact ⟨k1, k2, rfl⟩
theorem wpList_gather {w : World} {ops : Array Oper} {rest : List Oper} {o : Oper} {a : Act} {Q : Exit → Act → World → Prop} (hgd : o.guard = none) (s t : Operand)
  (ho : o.op = .call { callee := .builtin .append, args := #[s, t], argTypes := #[155, 155] }) (hty : o.type = 155) {B : Nat} {v : Value} {xs : List (List UInt8)} {q : Option Addr} {m c : Nat} {x : List UInt8}
  (hs : a.eval s = v) (ht : a.eval t = .slice (some ⟨w.heap.size, 0, none⟩) 1 1) (h : Gath B w v xs) (hx : By w (.slice q m c) x) (hap : Apart w v (.slice q m c) x) (hB : B ≤ w.heap.size) (hn : xs.length ≤ 1100000)
  (hK : ∀ v' w', Gath B w' v' (xs ++ [x]) → Below B w w' → wpList Tryz.prog ops Q rest (a.put o.dst v') w') : wpList Tryz.prog ops Q (o :: rest) a (w.alloc (.cells #[.slice q m c] 32)) := by
 obtain ⟨v', w', hr, h1, h2⟩ := run_gather h hx hap hB hn
 exact Lib.wpList_append_run_sl _ hgd s t 155 ho v _ hs ht (by rw [hty]; exact hr) (hK v' w' h1 h2)
end Go.Proofs.YtionbmlicmibgaaGreatDoor
namespace Go.Proofs.YtionbmlicmibgaaGreatDoor
set_option linter.unusedVariables false
set_option linter.unusedSimpArgs false
open Go.RowKit
def putB (l : List Sp) : List UInt8 × Nat := if l.all Sp.ok then (encL l, 0) else ([], 30)
theorem Gath.lit {B : Nat} {w : World} {q : Option Addr} {m c : Nat} {x : List UInt8} (hB : B ≤ w.heap.size) (hx : Own B w (.slice q m c) x) : Gath B (w.alloc (.cells #[.slice q m c] 32)) (.slice (some ⟨w.heap.size, 0, none⟩) 1 1) [x] := by
 refine ⟨[.slice q m c], rfl, World.ownsRow_lit w #[.slice q m c] 1 hB (by decide) rfl, fun i u y h1 h2 => ?_⟩
 match i, h1, h2 with
 | 0, h1, h2 =>
  simp at h1 h2
  subst h1 h2
  refine ⟨hx.by_.alloc _, ?_, rfl⟩
  rcases hx.notNew with h | h
  ·exact .inl h
  ·rcases hx with ⟨_, rfl⟩ | ⟨g, cap, e, _, _, _, hc, _⟩
   ·exact .inl rfl
   ·cases x with
    | nil => exact .inl rfl
    | cons y r =>
     refine .inr fun k hk => ⟨?_, ?_⟩
     ·have := h k hk
      simp only [Value.ownBlock]
      exact this
     ·injection e with e1
      subst e1
      simp only [Value.ownBlock, Option.some.injEq] at hk
      subst hk
      have := lt_of_cell (hc 0 y rfl)
      simp
      simp only at this
      omega
theorem Apart.of_own {B : Nat} {w w' : World} {v u : Value} {xs : List (List UInt8)} {x : List UInt8} (hG : Gath B w v xs) (ho : Own w.heap.size w' u x) : Apart w' v u x := by
 rcases ho with ⟨e, rfl⟩ | ⟨g, cap, e, hBg, hPl, hm, hc2, hs2, hf2⟩
 ·exact .inl rfl
 ·by_cases h0 : x = []
  ·exact .inl h0
  ·refine .inr fun j hj => ?_
   subst e
   simp only [Value.ownBlock, Option.some.injEq] at hj
   subst hj
   have hPp : 0 < x.length := List.length_pos_iff.2 h0
   refine ⟨fun h => ?_, lt_of_cell (hc2 0 x[0] (List.getElem?_eq_getElem hPp))⟩
   obtain ⟨us, _, hou, _⟩ := hG
   have := (hou.lt g h).2
   omega
theorem bytes_length {x : Sp} (h : x.ok = true) : x.bytes.length ≤ 100 := by
 have hk := (Sp.ok_iff x).1 h
 obtain ⟨t1, t2, i1, i2, p1, p2, s1, s2, e2, _, _, n2, _⟩ := hk
 have q1 := digits_length x.t.toNat (by omega)
 have q2 := digits_length x.i.toNat (by omega)
 have q3 := digits_length x.p.toNat (by omega)
 have q4 := digits_length x.s.toNat (by omega)
 have q5 := digits_length (x.e - x.s).toNat (by omega)
 have q6 := digits_length x.nl.length (by omega)
 unfold Sp.bytes
 simp only [List.length_append]
 omega
theorem lens_puts : ∀ {l : List Sp}, l.all Sp.ok = true → Lib.lens (l.map Sp.bytes) ≤ 100 * l.length
 | [], _ => by simp [Lib.lens]
 | x :: r, h => by
  rw [List.all_cons, Bool.and_eq_true] at h
  have h1 := bytes_length h.1
  have h2 := lens_puts h.2
  simp only [Lib.lens, List.map_cons, List.sum_cons, List.length_cons] at h2 ⊢
  omega
set_option maxRecDepth 200000 in
set_option maxHeartbeats 2000000 in
theorem spanPut_any {w : World} {v : Value} {l : List Sp} (hv : Sps w v l) (hl : l.length ≤ 100000) (hnm : ∀ x ∈ l, x.n.size ≤ 1100000) {B : List UInt8} {E : Nat} (hP : putB l = (B, E)) :
  Calls Tryz.prog 53 #[v] w fun e w' => ∃ v', e = .returned (.tuple #[v', .int .i64 (E : Int)]) ∧ Own w.heap.size w' v' B ∧ Below w.heap.size w w' := by
 obtain ⟨p, n, c, rfl⟩ := hv.sl
 obtain ⟨hn, hnc, hcm⟩ := hv.len
 have HV := hide hv
 have HN := hide hn
 have HP := hide hP
 have HM := hide hnm
 have hn1 : n ≤ 100000 := by omega
 clear hv hn hP hnm hl
 go_enter Tryz.func53, Tryz.ntmps53
 go_wp2_with fail
 refine (wireNumber_any (By.nil w) (by simp) n n (by omega) (by unfold lim; omega)).mono ?_
 rintro e1 w1 ⟨v1, rfl, ho, hb⟩
 rw [List.nil_append] at ho
 obtain ⟨q1, m1, c1, rfl⟩ := ho.by_.sl
 have hG := Gath.lit (B := w.heap.size) hb.size ho
 have HG := hide hG
 have HB := hide (hb.alloc hb.size (.cells #[.slice q1 m1 c1] 32))
 clear hG hb ho
 go_wp2_with fail
 obtain ⟨X, hX⟩ : ∃ X, w1.alloc (.cells #[.slice q1 m1 c1] 32) = X := ⟨_, rfl⟩
 rw [hX] at HG HB ⊢
 have HW1 := hide (show w1.heap.size < X.heap.size by rw [← hX]; simp)
 clear hX
 go_loopw [4, 6, 7, 14] (fun v _ _ c wr => ∃ k : Nat, k ≤ n ∧ c = .int .i64 k ∧ Hid (Gath w.heap.size wr v (digits n :: (l.take k).map Sp.bytes) ∧ Below w.heap.size w wr ∧ (l.take k).all Sp.ok = true)) (fun _ _ _ c _ => n - (intOf c).toNat)
 case atStart => exact ⟨0, by omega, rfl, hide ⟨HG.out, HB.out, rfl⟩⟩
 case round =>
  obtain ⟨k, hk, rfl, HR⟩ := hrel
  by_cases hlt : (k : Int) < (n : Int)
  ·obtain ⟨g, o, rfl, hx⟩ := HV.out.at_ (by omega)
   obtain ⟨x, hxk⟩ : ∃ x, l[k]? = some x := ⟨_, List.getElem?_eq_getElem (by have := HN.out; omega)⟩
   have hat := (hx k x hxk).below (HR.out.2.1)
   obtain ⟨oo, hoo⟩ : ∃ oo, o + k * 6 = oo := ⟨_, rfl⟩
   rw [hoo] at hat
   have c0 := hat.c0
   have c1' := hat.c1
   have c2 := hat.c2
   have c3 := hat.c3
   have c4 := hat.c4
   have c5 := hat.c5
   have hxn := HM.out x (List.mem_of_getElem? hxk)
   have HXK := hide hxk
   have HAT := hide hat
   have hck := check_any x hxn
   have HCK := hide hck
   have HBX := hide (bytesOf_any x)
   clear hx hxk hat hck
   have hnew := spAt_new wr x
   have HNEW := hide hnew
   have hbn : Below wr.heap.size wr (wr.alloc (.cells #[.int .i64 x.t, .int .i64 x.i, .int .i64 x.p, .int .i64 x.s, .int .i64 x.e, .string x.n] 30)) := (Below.refl _ _).alloc (Nat.le_refl _) _
   have HBN := hide hbn
   have hsn : wr.heap.size < (wr.alloc (.cells #[.int .i64 x.t, .int .i64 x.i, .int .i64 x.p, .int .i64 x.s, .int .i64 x.e, .string x.n] 30)).heap.size := by simp
   have HSN := hide hsn
   clear hnew hbn hsn
   by_cases hok : x.ok = true
   ·have HOK := hide hok
    obtain ⟨t, i, p, s, e, nm⟩ := x
    dsimp only at *
    unfold spV at *
    rw [if_pos hok] at HCK
    clear hok
    go_wp2_with fail
    refine (HCK.out _).mono ?_
    rintro e2 w2 ⟨rfl, hb2⟩
    obtain ⟨d0, d1, d2, d3, d4, d5⟩ := (HNEW.out.below hb2).z
    dsimp only at d0 d1 d2 d3 d4 d5
    have HB2 : Hid (Below wr.heap.size wr w2) := hide (HBN.out.trans (hb2.mono (Nat.le_of_lt HSN.out)))
    clear hb2
    go_wp2_with fail
    refine (HBX.out HOK.out _).mono ?_
    rintro e3 w3 ⟨v3, rfl, ho3, hb3⟩
    obtain ⟨q3, m3, c3, rfl⟩ := ho3.by_.sl
    have hap := Apart.of_own HR.out.1 (ho3.mono HB2.out.size)
    have HAP := hide hap
    have HG3 := hide (HR.out.1.below (HB2.out.trans (hb3.mono HB2.out.size)))
    have HB3 := hide (HR.out.2.1.trans ((HB2.out.trans (hb3.mono HB2.out.size)).mono HR.out.2.1.size))
    have HP3 := hide ho3.by_
    have hbs3 := HB3.out.size
    have HOK2 : Hid ((l.take (k + 1)).all Sp.ok = true ∧ digits n :: (l.take (k + 1)).map Sp.bytes = (digits n :: (l.take k).map Sp.bytes) ++ [Sp.bytes ⟨t, i, p, s, e, nm⟩]) := hide (by
     have h1 : l.take (k + 1) = l.take k ++ [⟨t, i, p, s, e, nm⟩] := by rw [List.take_add_one, HXK.out]; rfl
     rw [h1, List.all_append, HR.out.2.2]
     refine ⟨?_, by simp⟩
     simp only [List.all_cons, List.all_nil, Bool.and_true, Bool.true_and]
     exact HOK.out)
    have hlk : (digits n :: (l.take k).map Sp.bytes).length ≤ 1100000 := by
     simp only [List.length_cons, List.length_map, List.length_take]
     omega
    have HLK := hide hlk
    clear hap ho3 hb3 d0 d1 d2 d3 d4 d5 hlk
    go_wp2_with (at_builtin; go_must (refine wpList_gather (v := u4) rfl _ _ rfl rfl rfl rfl HG3.out HP3.out HAP.out hbs3 HLK.out ?_); intro v4 w4 hg4 hb4)
    go_roundw
    case rel => exact ⟨k + 1, by omega, by go_num, hide ⟨by rw [HOK2.out.2]; exact hg4, HB3.out.trans hb4, HOK2.out.1⟩⟩
    case measure => simp [intOf]; omega
   ·have hBE : B = [] ∧ E = 30 := by
     have hall : l.all Sp.ok = false := by
      rw [Bool.eq_false_iff]
      intro h
      exact hok (List.all_eq_true.1 h x (List.mem_of_getElem? HXK.out))
     have := HP.out
     unfold putB at this
     rw [hall] at this
     simp only [Bool.false_eq_true, if_false, Prod.mk.injEq] at this
     exact ⟨this.1.symm, this.2.symm⟩
    obtain ⟨rfl, rfl⟩ := hBE
    obtain ⟨t, i, p, s, e, nm⟩ := x
    dsimp only at *
    unfold spV at *
    rw [if_neg hok] at HCK
    clear hok
    go_wp2_with fail
    refine (HCK.out _).mono ?_
    rintro e2 w2 ⟨rfl, hb2⟩
    have HB2 : Hid (Below wr.heap.size wr w2) := hide (HBN.out.trans (hb2.mono (Nat.le_of_lt HSN.out)))
    clear hb2
    go_wp2
    go_ret2
    exact ⟨_, rfl, Own.nil _ _, HR.out.2.1.trans (HB2.out.mono HR.out.2.1.size)⟩
  ·have hkn : k = n := by omega
   subst hkn
   have hall : l.all Sp.ok = true := by
    have := HR.out.2.2
    rwa [List.take_of_length_le (by have := HN.out; omega)] at this
   have hG : Gath w.heap.size wr u4 (digits k :: l.map Sp.bytes) := by
    have := HR.out.1
    rwa [List.take_of_length_le (by have := HN.out; omega)] at this
   have hBE : B = (digits k :: l.map Sp.bytes).flatten ∧ E = 0 := by
    have := HP.out
    unfold putB at this
    rw [hall] at this
    simp only [if_true, Prod.mk.injEq] at this
    refine ⟨?_, this.2.symm⟩
    rw [← this.1]
    unfold encL
    rw [List.flatten_cons, HN.out]
   obtain ⟨rfl, rfl⟩ := hBE
   have hlens := lens_puts (l := l) hall
   have hlen1 := digits_length k (by omega)
   have HJ := hide (join_any hG.bss (by simp only [Lib.lens, List.map_cons, List.sum_cons] at hlens ⊢; have := HN.out; omega) (by simp only [List.length_cons, List.length_map]; have := HN.out; omega))
   have HBW := hide HR.out.2.1
   clear hG hall hlens hlen1
   go_wp2_with fail
   refine HJ.out.mono ?_
   rintro e2 w2 ⟨v2, rfl, ho2, hb2⟩
   have HO := hide ho2
   have HB2 := hide hb2
   clear ho2 hb2
   go_wp2
   go_ret2
   exact ⟨_, rfl, HO.out.mono HBW.out.size, HBW.out.trans (HB2.out.mono HBW.out.size)⟩
end Go.Proofs.YtionbmlicmibgaaGreatDoor
namespace Go.Proofs.YtionbmlicmibgaaGreatDoor
set_option linter.unusedVariables false
set_option linter.unusedSimpArgs false
open Go.RowKit
theorem str_size (l : List UInt8) : (str l).size = l.length := by rw [str_eq]; rfl
theorem str_data (l : List UInt8) : (str l).data.toList = l := by rw [str_eq]
theorem ownsRow_chgN {w w' : World} {B n z : Nat} {e : TypeId} {v : Value} {xs : List Value} {S : Nat → Prop} (h : w.ownsRow B e z v n xs) (hc : Chg w w' S) (hS : ∀ k, v.ownBlock = some k → ¬ S k) : w'.ownsRow B e z v n xs := by
 rcases h with ⟨h0, ⟨rfl, h1⟩ | ⟨g, cap, cur, rfl, hB, hh, r⟩⟩
 ·exact ⟨h0, .inl ⟨rfl, h1⟩⟩
 ·exact ⟨h0, .inr ⟨g, cap, cur, rfl, hB, (hc.block g (Array.getElem?_eq_some_iff.1 hh).1 (hS g rfl)).trans hh, r⟩⟩
theorem ownsRow_kind {w : World} {B n z : Nat} {e : TypeId} {v : Value} {xs : List Value} (h : w.ownsRow B e z v n xs) {k : Nat} (hk : v.ownBlock = some k) : ∃ cur, w.heap[k]? = some (.cells cur e (0, 0)) := by
 rcases h with ⟨h0, ⟨rfl, h1⟩ | ⟨g, cap, cur, rfl, hB, hh, r⟩⟩
 ·cases hk
 ·injection hk with hk
  subst hk
  exact ⟨cur, hh⟩
theorem kinds_apart {w : World} {B n z B' n' z' : Nat} {e e' : TypeId} {v v' : Value} {xs xs' : List Value} (h : w.ownsRow B e z v n xs) (h' : w.ownsRow B' e' z' v' n' xs') (hne : e ≠ e') {k : Nat} (hk : v.ownBlock = some k) : v'.ownBlock ≠ some k := fun hk' => by
 obtain ⟨c, h1⟩ := ownsRow_kind h hk
 obtain ⟨c', h2⟩ := ownsRow_kind h' hk'
 rw [h1] at h2
 injection h2 with h2
 injection h2 with _ h2
 exact hne h2
theorem run_gather2 {B : Nat} {w : World} {v : Value} {xs : List (List UInt8)} (h : Gath B w v xs) {q : Option Addr} {m c : Nat} {x : List UInt8} (hx : By w (.slice q m c) x) (hap : Apart w v (.slice q m c) x) (hB : B ≤ w.heap.size) (hs : xs.length ≤ 1100000) :
  ∃ v' w', (Builtin.append_ #[155, 155] 155 #[v, .slice (some ⟨w.heap.size, 0, none⟩) 1 1]).run Tryz.prog (w.alloc (.cells #[.slice q m c] 32)) = .ok v' w' ∧ Gath B w' v' (xs ++ [x]) ∧ Below B w w' ∧ Chg w w' fun k => v.ownBlock = some k := by
 obtain ⟨v', w', hr, h1, h2⟩ := run_gather h hx hap hB hs
 obtain ⟨us, hl, ho, hu⟩ := h
 obtain ⟨i0, hi0, hz0, hz1, hz2⟩ := info_parts Tryz.info32
 have ho' := ho.alloc (.cells #[.slice q m c] 32)
 obtain ⟨v2, w2, hr2, _, hg, _, _⟩ := run_append_own_at (P := Tryz.prog) (w.alloc (.cells #[.slice q m c] 32)) B 155 155 32 i0 (.slice none 0 0) 1 24 Tryz.underlying155 hi0 hz0 hz1 hz2 rfl (by decide) v xs.length us ho' ⟨w.heap.size, 0, none⟩ 1 1 [.slice q m c] rfl
  (cell_new1 _ _ _) (fun u hu => by simp at hu; subst hu; rfl) (by simp only [maxLen]; omega) (by omega) (by simp; omega)
 rw [hr] at hr2
 injection hr2 with e1 e2
 subst e1 e2
 exact ⟨v', w', hr, h1, h2, ((Chg.refl w _).alloc _).trans (Chg.of_grown hg (fun k => v.ownBlock = some k) fun k e => .inl e) fun k hk => .inl hk⟩
theorem wpList_gather2 {w : World} {ops : Array Oper} {rest : List Oper} {o : Oper} {a : Act} {Q : Exit → Act → World → Prop} (hgd : o.guard = none) (s t : Operand)
  (ho : o.op = .call { callee := .builtin .append, args := #[s, t], argTypes := #[155, 155] }) (hty : o.type = 155) {B : Nat} {v : Value} {xs : List (List UInt8)} {q : Option Addr} {m c : Nat} {x : List UInt8}
  (hs : a.eval s = v) (ht : a.eval t = .slice (some ⟨w.heap.size, 0, none⟩) 1 1) (h : Gath B w v xs) (hx : By w (.slice q m c) x) (hap : Apart w v (.slice q m c) x) (hB : B ≤ w.heap.size) (hn : xs.length ≤ 1100000)
  (hK : ∀ v' w', Gath B w' v' (xs ++ [x]) → Below B w w' → Chg w w' (fun k => v.ownBlock = some k) → wpList Tryz.prog ops Q rest (a.put o.dst v') w') : wpList Tryz.prog ops Q (o :: rest) a (w.alloc (.cells #[.slice q m c] 32)) := by
 obtain ⟨v', w', hr, h1, h2, h3⟩ := run_gather2 h hx hap hB hn
 exact Lib.wpList_append_run_sl _ hgd s t 155 ho v _ hs ht (by rw [hty]; exact hr) (hK v' w' h1 h2 h3)
theorem row_gather {w w' : World} {B B' n : Nat} {u v : Value} {cs : List Value} {xs : List (List UInt8)} (h : w.ownsRow B 3 1 u n cs) (hG : Gath B' w v xs) (hc : Chg w w' fun k => v.ownBlock = some k) : w'.ownsRow B 3 1 u n cs := by
 obtain ⟨us, hl, ho, _⟩ := hG
 exact ownsRow_chgN h hc fun k hk => kinds_apart h ho (by decide) hk
theorem ints_row {B : Nat} {w : World} {v : Value} {n : Nat} {l : List Int} (h : w.ownsRow B 3 1 v n (l.map (Value.int .i64))) : ∃ p c, v = .slice p n c ∧ l.length = n ∧ n ≤ maxLen ∧ (0 < n → ∃ g, p = some ⟨g, 0, none⟩ ∧ g < w.heap.size ∧ ∀ (i : Nat) x, l[i]? = some x → w.cell? ⟨g, i, none⟩ = some (.int .i64 x)) := by
 have hn : l.length = n := by have := h.1; simpa using this
 rcases h.2 with ⟨rfl, rfl⟩ | ⟨g, cap, cur, rfl, hB, hg, hl, hm, hs, ht⟩
 ·exact ⟨none, 0, rfl, hn, by simp [maxLen], fun h => by omega⟩
 ·refine ⟨_, cap, rfl, hn, by omega, fun _ => ⟨g, rfl, (Array.getElem?_eq_some_iff.1 hg).1, fun i x hx => ?_⟩⟩
  have := h.cells (g := g) rfl i (Value.int .i64 x) (by simp [hx])
  rwa [add_lit0, Nat.zero_add] at this
theorem sortS_mem {L : List Sp} {x : Sp} : x ∈ sortS L ↔ x ∈ L := (sortS_perm L).mem_iff
theorem enc_len {t : Int} {L : List Sp} (h : FoOk t L) : (encL (sortS L)).length ≤ 7000 := by
 have hall : (sortS L).all Sp.ok = true := List.all_eq_true.2 fun x hx => (h.ok x (sortS_mem.1 hx)).1
 have h1 := lens_puts hall
 have h2 := (sortS_perm L).length_eq
 have h3 := h.len
 have h4 := digits_length (sortS L).length (by omega)
 unfold encL
 rw [List.length_append, List.length_flatten]
 have h5 : (((sortS L).map Sp.bytes).map List.length).sum ≤ 100 * (sortS L).length := h1
 omega
theorem putB_fo {t : Int} {L : List Sp} (h : FoOk t L) : putB (sortS L) = (encL (sortS L), 0) := by
 have hall : (sortS L).all Sp.ok = true := List.all_eq_true.2 fun x hx => (h.ok x (sortS_mem.1 hx)).1
 unfold putB
 rw [if_pos hall]
theorem bytesS_len {y : Pl} (h : FoOk y.1 y.2) : (bytesS y).length ≤ 7010 := by
 have h1 := enc_len h
 have h2 := digits_length (encL (sortS y.2)).length (by omega)
 unfold bytesS
 rw [List.length_append]
 omega
theorem lens_imgs : ∀ {S : List Pl}, (∀ y ∈ S, FoOk y.1 y.2) → Lib.lens (S.map bytesS) ≤ 7010 * S.length
 | [], _ => by simp [Lib.lens]
 | y :: r, h => by
  have h1 := bytesS_len (h y (List.mem_cons_self ..))
  have h2 := lens_imgs (S := r) fun z hz => h z (List.mem_cons_of_mem _ hz)
  simp only [Lib.lens, List.map_cons, List.sum_cons, List.length_cons] at h2 ⊢
  omega
theorem imgS_flat (S : List Pl) : imgS S = (digits S.length :: S.map bytesS).flatten := by
 unfold imgS
 rw [List.flatten_cons, List.flatMap_def]
def ImgPost (w : World) (b : List UInt8) (e : Ending) (w' : World) : Prop := ∃ v, e = .returned v ∧ Own w.heap.size w' v b ∧ Below w.heap.size w w'
set_option maxRecDepth 200000 in
set_option maxHeartbeats 4000000 in
theorem simage_any {w : World} {gs bm : Nat} {R : List Tr} (h : SoIs w gs bm R) : Calls Tryz.prog 125 #[.pointer (some ⟨gs, 0, none⟩)] w (ImgPost w (imgS (R.map Tr.pl))) := by
 have HM := hide (smade_any h.c0)
 have HH := hide h
 have hL8 := h.len
 clear h
 obtain ⟨n, hn⟩ : ∃ n, R.length = n := ⟨_, rfl⟩
 rw [hn] at hL8
 have HN := hide hn
 go_enter Tryz.func125, Tryz.ntmps125
 go_wp2_with fail
 refine HM.out.mono ?_
 rintro e X ⟨rfl, q, hq⟩
 have hcX : Below w.heap.size w X := by rw [hq]; exact bdrew w q
 clear hq
 have hX := HH.out.below hcX
 have c0 := hX.c0
 obtain ⟨D, hD⟩ := hX.map
 have hlen := hD.map.len Tryz.underlying168 3
 rw [hD.rd.size, hn] at hlen
 have HX := hide hX
 have HCX := hide hcX
 clear hX hD hcX hn
 go_wp2_with fail
 refine (wireNumber_any (By.nil X) (by simp) n n (by omega) (by unfold lim; omega)).mono ?_
 rintro e1 w1 ⟨v1, rfl, ho, hb⟩
 rw [List.nil_append] at ho
 obtain ⟨q1, m1, c1, rfl⟩ := ho.by_.sl
 have hG := Gath.lit (B := X.heap.size) hb.size ho
 have HG := hide hG
 have HB := hide (hb.alloc hb.size (.cells #[.slice q1 m1 c1] 32))
 clear hG hb ho
 go_wp2_with fail
 refine (straces_any (HX.out.below HB.out)).mono ?_
 rintro e2 w2 ⟨v2, rfl, hrow, hb2⟩
 rw [HN.out] at hrow
 obtain ⟨p2, c2, rfl, hl2, hmx, hcl⟩ := ints_row hrow
 have HG2 := hide (HG.out.below hb2)
 have HB2 := hide (HB.out.trans (hb2.mono HB.out.size))
 have HROW := hide (row_mono (B' := w1.heap.size) hrow (by simp))
 have hmx' : (n : Int) ≤ 9223372036854775807 := by omega
 clear hrow hcl hb2 hmx hl2 HG HB
 go_wp2_with fail
 go_loopw [3, 5, 6, 7, 21] (fun v _ _ _ i wr => ∃ k : Nat, k ≤ n ∧ i = .int .i64 k ∧ Hid (Gath X.heap.size wr v (digits n :: (R.take k).map fun x => bytesS x.pl) ∧ Below X.heap.size X wr ∧ wr.ownsRow w1.heap.size 3 1 (.slice p2 n c2) n ((R.map (·.t)).map (Value.int .i64)))) (fun _ _ _ _ i _ => n - (intOf i).toNat)
 case atStart => exact ⟨0, by omega, rfl, hide ⟨HG2.out, HB2.out, HROW.out⟩⟩
 case round =>
  obtain ⟨k, hk, rfl, HR⟩ := hrel
  by_cases hlt : k < n
  ·obtain ⟨y, hy⟩ : ∃ y, R[k]? = some y := ⟨_, List.getElem?_eq_getElem (by have := HN.out; omega)⟩
   obtain ⟨p2', c2', he2, _, _, hcl⟩ := ints_row HR.out.2.2
   injection he2 with he2 _ he3
   subst he2 he3
   obtain ⟨gk, rfl, hgk, hc⟩ := hcl (by omega)
   have hckr : wr.cell? ⟨gk, k, none⟩ = some (.int .i64 y.t) := hc k y.t (by simp [hy])
   have hbX : Below X.heap.size X wr := HR.out.2.1
   have hTr := HX.out.below hbX
   have c0r := hTr.c0
   obtain ⟨Dr, hDr⟩ := hTr.map
   have hym : y ∈ R := List.mem_of_getElem? hy
   have hyo := HX.out.ok.ok y.pl (List.mem_map.2 ⟨y, hym, rfl⟩)
   have hl : (Instr.lookup 168 (.map (some bm)) (.int .i64 y.t) false).run Tryz.prog wr = .ok (ptrV (fndK kR R y.t)) wr := hDr.look (k := y.t) (WalkArith.wf_i64 (by have h1 : 1 ≤ y.t := hyo.2.2.1; have h2 : y.t ≤ 1099511627776 := hyo.2.2.2; omega)) 0
   rw [show fndK kR R y.t = some y from fndK_of HX.out.rises.ids hym] at hl
   have HF := hide (hTr.fo y hym)
   have HTK : Hid (R.take (k + 1) = R.take k ++ [y]) := hide (by rw [List.take_add_one, hy]; rfl)
   have HFO : Hid (FoOk y.t y.L) := hide hyo.1
   have HBX := hide hbX
   clear hDr hTr hym hyo hc hcl hy hbX
   obtain ⟨t, g, b, L⟩ := y
   dsimp only [ptrV, Tr.v, Tr.pl] at *
   go_wp2_with fail
   refine (spans_any HF.out).mono ?_
   rintro e3 w3 ⟨v3, rfl, ho3, hb3⟩
   have hl64 : (sortS L).length ≤ 64 := by rw [(sortS_perm L).length_eq]; exact HFO.out.len
   have HPT := hide (spanPut_any ho3.sps (by omega) (fun x hx => sp_name (HFO.out.ok x (sortS_mem.1 hx)).1) (putB_fo HFO.out))
   have HB3 := hide hb3
   clear ho3 hb3 hl64
   go_wp2_with fail
   refine HPT.out.mono ?_
   rintro e4 w4 ⟨v4, rfl, ho4, hb4⟩
   obtain ⟨q4, m4, c4, rfl⟩ := ho4.by_.sl
   have hcv := conv_at ho4.by_
   have HB4 : Hid (Below wr.heap.size wr w4) := hide (HB3.out.trans (hb4.mono HB3.out.size))
   have hel := enc_len HFO.out
   obtain ⟨eb, heb⟩ : ∃ eb, encL (sortS L) = eb := ⟨_, rfl⟩
   have HBS : Hid (bytesS (t, L) = digits eb.length ++ eb) := hide (by unfold bytesS; rw [heb])
   rw [heb] at hcv hel
   have HWT := hide (wireText_any (By.nil w4) (by simp) (str eb) (by have := str_size eb; omega))
   have HEL := hide hel
   clear ho4 hb4 HPT heb hel
   go_wp2_with fail
   refine HWT.out.mono ?_
   rintro e5 w5 ⟨v5, rfl, ho5, hb5⟩
   obtain ⟨q5, m5, c5, rfl⟩ := ho5.by_.sl
   have HB5 : Hid (Below wr.heap.size wr w5) := hide (HB4.out.trans (hb5.mono HB4.out.size))
   have hap := Apart.of_own HR.out.1 (ho5.mono (B' := wr.heap.size) HB4.out.size)
   have HAP := hide hap
   have HG3 := hide (HR.out.1.below HB5.out)
   have HP3 := hide ho5.by_
   have hbs3 : X.heap.size ≤ w5.heap.size := Nat.le_trans HBX.out.size HB5.out.size
   have HLK : Hid ((digits n :: (R.take k).map fun x => bytesS (x.t, x.L)).length ≤ 1100000) := hide (by
    simp only [List.length_cons, List.length_map, List.length_take]
    omega)
   have HNX : Hid (digits n :: (R.take (k + 1)).map (fun x => bytesS (x.t, x.L)) = (digits n :: (R.take k).map fun x => bytesS (x.t, x.L)) ++ [[] ++ digits (str eb).size ++ (str eb).data.toList]) := hide (by
    rw [HTK.out, str_size, str_data, List.map_append, List.cons_append, List.map_singleton]
    dsimp only
    rw [HBS.out]
    rfl)
   clear hap ho5 hb5 HWT hcv hl
   go_wp2_with (at_builtin; go_must (refine wpList_gather2 (v := u3) rfl _ _ rfl rfl rfl rfl HG3.out HP3.out HAP.out hbs3 HLK.out ?_); intro v6 w6 hg6 hb6 hc6)
   go_roundw
   case rel => exact ⟨k + 1, by omega, by go_num, hide ⟨by rw [HNX.out]; exact hg6, (HBX.out.trans (HB5.out.mono HBX.out.size)).trans hb6, row_gather (row_below HR.out.2.2 HB5.out) HG3.out hc6⟩⟩
   case measure => simp [intOf]; omega
  ·obtain rfl : k = n := by omega
   have htk : R.take k = R := List.take_of_length_le (by have := HN.out; omega)
   have hg := HR.out.1
   rw [htk] at hg
   have hls : Lib.lens (digits k :: R.map fun x => bytesS x.pl) ≤ 140737488355328 := by
    have h1 := lens_imgs (S := R.map Tr.pl) fun y hy => (HX.out.ok.ok y hy).1
    have h2 := digits_length k (by omega)
    rw [List.map_map] at h1
    simp only [Lib.lens, List.map_cons, List.sum_cons, List.length_map] at h1 ⊢
    have := HN.out
    have h3 : (List.map (fun x => x.length) (List.map (bytesS ∘ Tr.pl) R)).sum = (List.map (fun x => x.length) (List.map (fun x => bytesS x.pl) R)).sum := rfl
    omega
   have HJ := hide (join_any hg.bss hls (by simp; have := HN.out; omega))
   have HFL : Hid ((digits k :: R.map fun x => bytesS x.pl).flatten = imgS (R.map Tr.pl)) := hide (by rw [imgS_flat, List.length_map, HN.out, List.map_map]; rfl)
   have HBX := hide HR.out.2.1
   clear htk hg hls
   go_wp2_with fail
   refine HJ.out.mono ?_
   rintro e2 w9 ⟨v9, rfl, ho9, hb9⟩
   have HO := hide (ho9.mono (B' := w.heap.size) (Nat.le_trans HCX.out.size HBX.out.size))
   have HB9 := hide (HCX.out.trans ((HBX.out.trans (hb9.mono HBX.out.size)).mono HCX.out.size))
   clear ho9 hb9
   go_wp2
   go_ret
   exact ⟨_, rfl, by rw [← HFL.out]; exact HO.out, HB9.out⟩
end Go.Proofs.YtionbmlicmibgaaGreatDoor
namespace Go.Proofs.YtionbmlicmibgaaGreatDoor
set_option linter.unusedVariables false
set_option linter.unusedSimpArgs false
open Go.RowKit
end Go.Proofs.YtionbmlicmibgaaGreatDoor
