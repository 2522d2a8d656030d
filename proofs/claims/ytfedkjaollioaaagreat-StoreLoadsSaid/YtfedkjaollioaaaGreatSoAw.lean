/- The example of the laws: awake. -/
import Derived.Test.YtfedkjaollioaaaGreatSoAwP
namespace Go.Proofs.YtfedkjaollioaaaGreat
set_option linter.unusedVariables false
set_option linter.unusedSimpArgs false
open Go.RowKit

set_option maxRecDepth 200000 in
set_option maxHeartbeats 8000000 in
theorem sawake_any (w : World) : Calls Tryz.prog 6 #[] w fun e w' => e = .returned (.bool true) ∧ Below w.heap.size w w' := by
  have HO := hide one_any
  go_enter Tryz.func6, Tryz.ntmps6
  go_wp2_with fail
  refine (snew_any w).mono ?_
  intro e w1 hn
  obtain ⟨gs, bm, R0, rfl, hs1, hr1, hn1, hb1⟩ := hn
  have H1 := hide (And.intro hs1 (And.intro hr1 (And.intro hn1 hb1)))
  clear hs1 hr1 hn1 hb1
  go_wp2_with fail
  refine (HO.out _).mono ?_
  rintro e w2 ⟨rfl, hb2⟩
  have hal := (Below.refl w2.heap.size w2).alloc (Nat.le_refl _) (.cells #[.int .i64 1, .int .i64 2, .int .i64 0, .int .i64 5, .int .i64 7, .string ⟨#[97]⟩] 38)
  have hs2 := (H1.out.1.below hb2).below hal
  have HIN := hide (singest_any hs2 (sps_one6 w2 oneP) (by simp) (fun x hx => by
    simp only [List.mem_cons, List.not_mem_nil, or_false] at hx
    subst hx
    exact sp_name oneP_ok))
  have H2 := hide (And.intro hs2 (And.intro (H1.out.2.2.2.trans (hb2.mono H1.out.2.2.2.size)) hal))
  clear hb2 hs2 hal
  go_wp2_with fail
  refine HIN.out.mono ?_
  intro e w3 hp3
  obtain ⟨he3, R, ht3⟩ := hp3
  rw [H1.out.2.1] at he3 ht3
  obtain ⟨i1, i2, i3⟩ := ing_one
  rw [i2, i3] at he3
  rw [i1] at ht3
  subst he3
  have hB3 : Below w.heap.size w w3 := Chg.to_below (H2.out.2.1.trans (H2.out.2.2.mono H2.out.2.1.size)) ht3.chg fun k hk => H1.out.2.2.1 k (SoM.sub hk)
  have hB4 := hB3.alloc hB3.size (.cells #[.int .i64 1, .int .i64 0, .int .i64 0, .int .i64 0, .int .i64 0] 40)
  have hs4 := ht3.is.alloc (.cells #[.int .i64 1, .int .i64 0, .int .i64 0, .int .i64 0, .int .i64 0] 40)
  have hrn := heap_alloc_new w3 (.cells #[.int .i64 1, .int .i64 0, .int .i64 0, .int .i64 0, .int .i64 0] 40)
  have hnew : ∀ k, SoS gs bm R k → w.heap.size ≤ k := fun k hk => by
    rcases ht3.new k hk with h1 | h1
    · exact H1.out.2.2.1 k h1
    · have := H2.out.2.1.size; simp at h1; omega
  have HLK := hide (slookup_any hs4 (k := 1) (by decide))
  have H4 := hide (And.intro hs4 (And.intro hB4 (And.intro hrn (And.intro ht3.pl hnew))))
  clear ht3 hB3 hB4 hs4 hrn hnew i1 i2 i3 HIN
  unfold cnV
  go_wp2_with fail
  refine HLK.out.mono ?_
  rintro e w5 ⟨v5, rfl, ho5, hb5⟩
  rw [H4.out.2.2.2.1, brs_one] at ho5
  obtain ⟨p5, n5, c5, rfl⟩ := ho5.brs.sl
  obtain rfl : n5 = 1 := ho5.brs.len.1
  obtain ⟨gb, ob, rfl, hx⟩ := ho5.brs.at_ (by omega)
  have h0 := hx 0 _ rfl
  obtain ⟨gn, hgn⟩ : ∃ gn, w3.heap.size = gn := ⟨_, rfl⟩
  have hrn5 := (hb5.block w3.heap.size (Array.getElem?_eq_some_iff.1 H4.out.2.2.1).1).trans H4.out.2.2.1
  rw [hgn] at hrn5 ⊢
  have s0 : w5.cell? ⟨gn, 0, none⟩ = some (.int .i64 1) := cell_of_row w5 gn 0 _ 40 (0, 0) hrn5
  have s1 : w5.cell? ⟨gn, 1, none⟩ = some (.int .i64 0) := cell_of_row w5 gn 1 _ 40 (0, 0) hrn5
  have s2 : w5.cell? ⟨gn, 2, none⟩ = some (.int .i64 0) := cell_of_row w5 gn 2 _ 40 (0, 0) hrn5
  have s3 : w5.cell? ⟨gn, 3, none⟩ = some (.int .i64 0) := cell_of_row w5 gn 3 _ 40 (0, 0) hrn5
  have s4 : w5.cell? ⟨gn, 4, none⟩ = some (.int .i64 0) := cell_of_row w5 gn 4 _ 40 (0, 0) hrn5
  have s5 : w5.cell? ⟨gb, ob + 2, none⟩ = some (.int .i64 1) := by have h := h0 2 (.int .i64 1) rfl; simpa using h
  have s6 : w5.cell? ⟨gb, ob + 3, none⟩ = some (.int .i64 2) := by have h := h0 3 (.int .i64 2) rfl; simpa using h
  have s7 : w5.cell? ⟨gb, ob + 4, none⟩ = some (.int .i64 0) := by have h := h0 4 (.int .i64 0) rfl; simpa using h
  have s8 : w5.cell? ⟨gb, ob + 5, none⟩ = some (.int .i64 5) := by have h := h0 5 (.int .i64 5) rfl; simpa using h
  have s9 : w5.cell? ⟨gb, ob + 6, none⟩ = some (.int .i64 7) := by have h := h0 6 (.int .i64 7) rfl; simpa using h
  have s10 : w5.cell? ⟨gb, ob + 7, none⟩ = some (.string ⟨#[97]⟩) := by have h := h0 7 (.string ⟨#[97]⟩) rfl; simpa using h
  obtain ⟨q7, ql⟩ := ret7 H4.out.2.2.2.1
  obtain ⟨q8, _⟩ := ret8 H4.out.2.2.2.1
  have HS0 := hide (And.intro s0 (And.intro s1 (And.intro s2 (And.intro s3 (And.intro s4 (And.intro s5 (And.intro s6 (And.intro s7 (And.intro s8 (And.intro s9 s10))))))))))
  have HSD : Hid (SoIs w5.drew gs bm R) := hide ((H4.out.1.below hb5).drewN 1)
  have hB5 := H4.out.2.1.trans (hb5.mono H4.out.2.1.size)
  have HB5 := hide hB5
  have HNW := hide (show ∀ k, SoM bm R k → w.heap.size ≤ k from fun k hk => H4.out.2.2.2.2 k (SoM.sub hk))
  have HR7 : Hid (∀ V, SoIs V gs bm R → Calls Tryz.prog 8 #[.pointer (some ⟨gs, 0, none⟩), .int .i64 7] V fun e w' => e = .returned (.int .i64 0) ∧ SoIs w' gs bm R ∧ Chg V w' (SoM bm R)) := hide fun V hV => (sretain_any hV 7).mono fun e w' h => by
    obtain ⟨h1, h2⟩ := h
    rw [q7] at h1 h2
    exact ⟨by rw [h1, Int.sub_self], h2.is, h2.chg⟩
  have HR8 : Hid (∀ V, SoIs V gs bm R → Calls Tryz.prog 8 #[.pointer (some ⟨gs, 0, none⟩), .int .i64 8] V fun e w' => e = .returned (.int .i64 1) ∧ SoIs w' gs bm [] ∧ Chg V w' (SoM bm R)) := hide fun V hV => (sretain_any hV 8).mono fun e w' h => by
    obtain ⟨h1, h2⟩ := h
    rw [q8] at h1 h2
    exact ⟨by rw [h1, ql]; rfl, h2.is, h2.chg⟩
  have HIM : Hid (∀ V, SoIs V gs bm R → Calls Tryz.prog 23 #[.pointer (some ⟨gs, 0, none⟩)] V fun e w' => ∃ (p : Option Addr) (n c : Nat), e = .returned (.slice p n c) ∧ (5 : Int) < (n : Int) ∧ Below V.heap.size V w') := hide fun V hV => (simage_any hV).mono fun e w' h => by
    obtain ⟨v, rfl, ho, hb⟩ := h
    obtain ⟨p, n, c, rfl⟩ := ho.by_.sl
    have hl := ho.by_.len.1
    rw [H4.out.2.2.2.1] at hl
    have := img_one
    exact ⟨p, n, c, rfl, by omega, hb⟩
  have HTR : Hid (∀ V, SoIs V gs bm [] → Calls Tryz.prog 24 #[.pointer (some ⟨gs, 0, none⟩)] V fun e w' => ∃ (p : Option Addr) (c : Nat), e = .returned (.slice p 0 c) ∧ Below V.heap.size V w') := hide fun V hV => (straces_any hV).mono fun e w' h => by
    obtain ⟨v, rfl, ho, hb⟩ := h
    obtain ⟨p, c, rfl, _⟩ := ints_row ho
    exact ⟨p, c, rfl, hb⟩
  have KB : Hid (∀ V V' : World, V.cell? ⟨gn, 0, none⟩ = some (.int .i64 1) ∧ V.cell? ⟨gn, 1, none⟩ = some (.int .i64 0) ∧ V.cell? ⟨gn, 2, none⟩ = some (.int .i64 0) ∧ V.cell? ⟨gn, 3, none⟩ = some (.int .i64 0) ∧ V.cell? ⟨gn, 4, none⟩ = some (.int .i64 0) ∧ V.cell? ⟨gb, ob + 2, none⟩ = some (.int .i64 1) ∧ V.cell? ⟨gb, ob + 3, none⟩ = some (.int .i64 2) ∧ V.cell? ⟨gb, ob + 4, none⟩ = some (.int .i64 0) ∧ V.cell? ⟨gb, ob + 5, none⟩ = some (.int .i64 5) ∧ V.cell? ⟨gb, ob + 6, none⟩ = some (.int .i64 7) ∧ V.cell? ⟨gb, ob + 7, none⟩ = some (.string ⟨#[97]⟩) → Below V.heap.size V V' → V'.cell? ⟨gn, 0, none⟩ = some (.int .i64 1) ∧ V'.cell? ⟨gn, 1, none⟩ = some (.int .i64 0) ∧ V'.cell? ⟨gn, 2, none⟩ = some (.int .i64 0) ∧ V'.cell? ⟨gn, 3, none⟩ = some (.int .i64 0) ∧ V'.cell? ⟨gn, 4, none⟩ = some (.int .i64 0) ∧ V'.cell? ⟨gb, ob + 2, none⟩ = some (.int .i64 1) ∧ V'.cell? ⟨gb, ob + 3, none⟩ = some (.int .i64 2) ∧ V'.cell? ⟨gb, ob + 4, none⟩ = some (.int .i64 0) ∧ V'.cell? ⟨gb, ob + 5, none⟩ = some (.int .i64 5) ∧ V'.cell? ⟨gb, ob + 6, none⟩ = some (.int .i64 7) ∧ V'.cell? ⟨gb, ob + 7, none⟩ = some (.string ⟨#[97]⟩)) := hide (by
    rintro V V' ⟨a0, a1, a2, a3, a4, a5, a6, a7, a8, a9, a10⟩ hb
    exact ⟨(hb.cell (lt_of_cell a0)).trans a0, (hb.cell (lt_of_cell a1)).trans a1, (hb.cell (lt_of_cell a2)).trans a2, (hb.cell (lt_of_cell a3)).trans a3, (hb.cell (lt_of_cell a4)).trans a4, (hb.cell (lt_of_cell a5)).trans a5, (hb.cell (lt_of_cell a6)).trans a6, (hb.cell (lt_of_cell a7)).trans a7, (hb.cell (lt_of_cell a8)).trans a8, (hb.cell (lt_of_cell a9)).trans a9, (hb.cell (lt_of_cell a10)).trans a10⟩)
  have KC : Hid (∀ V V' : World, V.cell? ⟨gn, 0, none⟩ = some (.int .i64 1) ∧ V.cell? ⟨gn, 1, none⟩ = some (.int .i64 0) ∧ V.cell? ⟨gn, 2, none⟩ = some (.int .i64 0) ∧ V.cell? ⟨gn, 3, none⟩ = some (.int .i64 0) ∧ V.cell? ⟨gn, 4, none⟩ = some (.int .i64 0) ∧ V.cell? ⟨gb, ob + 2, none⟩ = some (.int .i64 1) ∧ V.cell? ⟨gb, ob + 3, none⟩ = some (.int .i64 2) ∧ V.cell? ⟨gb, ob + 4, none⟩ = some (.int .i64 0) ∧ V.cell? ⟨gb, ob + 5, none⟩ = some (.int .i64 5) ∧ V.cell? ⟨gb, ob + 6, none⟩ = some (.int .i64 7) ∧ V.cell? ⟨gb, ob + 7, none⟩ = some (.string ⟨#[97]⟩) → SoIs V gs bm R → Chg V V' (SoM bm R) → V'.cell? ⟨gn, 0, none⟩ = some (.int .i64 1) ∧ V'.cell? ⟨gn, 1, none⟩ = some (.int .i64 0) ∧ V'.cell? ⟨gn, 2, none⟩ = some (.int .i64 0) ∧ V'.cell? ⟨gn, 3, none⟩ = some (.int .i64 0) ∧ V'.cell? ⟨gn, 4, none⟩ = some (.int .i64 0) ∧ V'.cell? ⟨gb, ob + 2, none⟩ = some (.int .i64 1) ∧ V'.cell? ⟨gb, ob + 3, none⟩ = some (.int .i64 2) ∧ V'.cell? ⟨gb, ob + 4, none⟩ = some (.int .i64 0) ∧ V'.cell? ⟨gb, ob + 5, none⟩ = some (.int .i64 5) ∧ V'.cell? ⟨gb, ob + 6, none⟩ = some (.int .i64 7) ∧ V'.cell? ⟨gb, ob + 7, none⟩ = some (.string ⟨#[97]⟩)) := hide (by
    rintro V V' ⟨a0, a1, a2, a3, a4, a5, a6, a7, a8, a9, a10⟩ hs hc
    exact ⟨hs.keep hc a0, hs.keep hc a1, hs.keep hc a2, hs.keep hc a3, hs.keep hc a4, hs.keep hc a5, hs.keep hc a6, hs.keep hc a7, hs.keep hc a8, hs.keep hc a9, hs.keep hc a10⟩)
  clear q7 q8 ql hrn5 hx h0 ho5 hb5 hgn hB5
  have i0 : (0 : Int) < 1 := by decide
  go_wp2_with fail
  refine wp_region_held_drew (S := fun V => V.cell? ⟨gn, 0, none⟩ = some (.int .i64 1) ∧ V.cell? ⟨gn, 1, none⟩ = some (.int .i64 0) ∧ V.cell? ⟨gn, 2, none⟩ = some (.int .i64 0) ∧ V.cell? ⟨gn, 3, none⟩ = some (.int .i64 0) ∧ V.cell? ⟨gn, 4, none⟩ = some (.int .i64 0) ∧ V.cell? ⟨gb, ob + 2, none⟩ = some (.int .i64 1) ∧ V.cell? ⟨gb, ob + 3, none⟩ = some (.int .i64 2) ∧ V.cell? ⟨gb, ob + 4, none⟩ = some (.int .i64 0) ∧ V.cell? ⟨gb, ob + 5, none⟩ = some (.int .i64 5) ∧ V.cell? ⟨gb, ob + 6, none⟩ = some (.int .i64 7) ∧ V.cell? ⟨gb, ob + 7, none⟩ = some (.string ⟨#[97]⟩)) (by kernel_rfl) HS0.out (fun hHeld => ?_)
  refine wpAnyH_take (i := 0) (oi := { dst := some 15, op := Op.move (Operand.tmp 3), type := 41, pos := "law.go:59", after := #[], guard := none }) (v := ?_) rfl (by kernel_rfl) (by kernel_rfl) (by kernel_rfl) (fun _ _ _ h => h) (Or.inl ⟨by rfl, ?_⟩) (by assumption) ?_
  rotate_left
  · intro w hSw
    (try dsimp only at hSw)
    go_simp
    try with_reducible rfl
  try simp only [Act.put, List.setIfInBounds_toArray, List.set_cons_zero, List.set_cons_succ]
  refine wpAnyH_take (i := 1) (oi := { dst := some 16, op := Op.binOp BinOp.eql 41 (Operand.tmp 15) (Operand.const (Value.int IntKind.i64 0)) 41, type := 4, pos := "law.go:59", after := _, guard := none }) (v := ?_) rfl (by kernel_rfl) (by kernel_rfl) (by kernel_rfl) (fun _ _ _ h => h) (Or.inl ⟨by rfl, ?_⟩) (by assumption) ?_
  rotate_left
  · intro w hSw
    (try dsimp only at hSw)
    go_simp
    try with_reducible rfl
  try simp only [Act.put, List.setIfInBounds_toArray, List.set_cons_zero, List.set_cons_succ]
  refine wpAnyH_take (i := 2) (oi := { dst := some 17, op := Op.move (Operand.tmp 16), type := 4, pos := "law.go:59", after := _, guard := none }) (v := ?_) rfl (by kernel_rfl) (by kernel_rfl) (by kernel_rfl) (fun _ _ _ h => h) (Or.inl ⟨by rfl, ?_⟩) (by assumption) ?_
  rotate_left
  · intro w hSw
    (try dsimp only at hSw)
    go_simp
    try with_reducible rfl
  try simp only [Act.put, List.setIfInBounds_toArray, List.set_cons_zero, List.set_cons_succ]
  refine wpAnyH_take (i := 3) (oi := { dst := some 18, op := Op.load 40 (Operand.tmp 2), type := 40, pos := "law.go:59", after := _, guard := some (2, true) }) (v := ?_) rfl (by kernel_rfl) (by kernel_rfl) (by kernel_rfl) (fun _ _ _ h => h) (Or.inl ⟨by rfl, ?_⟩) (by assumption) ?_
  rotate_left
  · intro w hSw
    (try dsimp only at hSw)
    go_simp
    try with_reducible rfl
  try simp only [Act.put, List.setIfInBounds_toArray, List.set_cons_zero, List.set_cons_succ]
  refine wpAnyH_take (i := 4) (oi := { dst := some 19, op := Op.build 40 #[(0, Operand.const (Value.int IntKind.i64 1))], type := 40, pos := "law.go:59", after := _, guard := some (2, true) }) (v := ?_) rfl (by kernel_rfl) (by kernel_rfl) (by kernel_rfl) (fun _ _ _ h => h) (Or.inl ⟨by rfl, ?_⟩) (by assumption) ?_
  rotate_left
  · intro w hSw
    (try dsimp only at hSw)
    go_simp
    try with_reducible rfl
  try simp only [Act.put, List.setIfInBounds_toArray, List.set_cons_zero, List.set_cons_succ]
  refine wpAnyH_take (i := 5) (oi := { dst := some 20, op := Op.binOp BinOp.eql 40 (Operand.tmp 18) (Operand.tmp 19) 40, type := 4, pos := "law.go:59", after := _, guard := some (2, true) }) (v := ?_) rfl (by kernel_rfl) (by kernel_rfl) (by kernel_rfl) (fun _ _ _ h => h) (Or.inl ⟨by rfl, ?_⟩) (by assumption) ?_
  rotate_left
  · intro w hSw
    (try dsimp only at hSw)
    go_simp
    try with_reducible rfl
  try simp only [Act.put, List.setIfInBounds_toArray, List.set_cons_zero, List.set_cons_succ]
  refine wpAnyH_take (i := 6) (oi := { dst := some 21, op := Op.pick (Operand.tmp 17) (Operand.tmp 20) (Operand.const (Value.bool false)), type := 4, pos := "law.go:59", after := _, guard := none }) (v := ?_) rfl (by kernel_rfl) (by kernel_rfl) (by kernel_rfl) (fun _ _ _ h => h) (Or.inl ⟨by rfl, ?_⟩) (by assumption) ?_
  rotate_left
  · intro w hSw
    (try dsimp only at hSw)
    go_simp
    try with_reducible rfl
  try simp only [Act.put, List.setIfInBounds_toArray, List.set_cons_zero, List.set_cons_succ]
  refine wpAnyH_take (i := 7) (oi := { dst := some 22, op := Op.move (Operand.tmp 21), type := 4, pos := "law.go:59", after := _, guard := none }) (v := ?_) rfl (by kernel_rfl) (by kernel_rfl) (by kernel_rfl) (fun _ _ _ h => h) (Or.inl ⟨by rfl, ?_⟩) (by assumption) ?_
  rotate_left
  · intro w hSw
    (try dsimp only at hSw)
    go_simp
    try with_reducible rfl
  try simp only [Act.put, List.setIfInBounds_toArray, List.set_cons_zero, List.set_cons_succ]
  refine wpAnyH_take (i := 8) (oi := { dst := some 23, op := Op.move (Operand.tmp 4), type := 57, pos := "law.go:59", after := _, guard := some (7, true) }) (v := ?_) rfl (by kernel_rfl) (by kernel_rfl) (by kernel_rfl) (fun _ _ _ h => h) (Or.inl ⟨by rfl, ?_⟩) (by assumption) ?_
  rotate_left
  · intro w hSw
    (try dsimp only at hSw)
    go_simp
    try with_reducible rfl
  try simp only [Act.put, List.setIfInBounds_toArray, List.set_cons_zero, List.set_cons_succ]
  refine wpAnyH_take (i := 9) (oi := { dst := some 24, op := Op.call { callee := Callee.builtin Builtin.len, args := #[Operand.tmp 23], argTypes := #[57] }, type := 3, pos := "law.go:59", after := _, guard := some (7, true) }) (v := ?_) rfl (by kernel_rfl) (by kernel_rfl) (by kernel_rfl) (fun _ _ _ h => h) (Or.inl ⟨by rfl, ?_⟩) (by assumption) ?_
  rotate_left
  · intro w hSw
    (try dsimp only at hSw)
    go_simp
    try with_reducible rfl
  try simp only [Act.put, List.setIfInBounds_toArray, List.set_cons_zero, List.set_cons_succ]
  refine wpAnyH_take (i := 10) (oi := { dst := some 25, op := Op.binOp BinOp.eql 3 (Operand.tmp 24) (Operand.const (Value.int IntKind.i64 1)) 3, type := 4, pos := "law.go:59", after := _, guard := some (7, true) }) (v := ?_) rfl (by kernel_rfl) (by kernel_rfl) (by kernel_rfl) (fun _ _ _ h => h) (Or.inl ⟨by rfl, ?_⟩) (by assumption) ?_
  rotate_left
  · intro w hSw
    (try dsimp only at hSw)
    go_simp
    try with_reducible rfl
  try simp only [Act.put, List.setIfInBounds_toArray, List.set_cons_zero, List.set_cons_succ]
  refine wpAnyH_take (i := 11) (oi := { dst := some 26, op := Op.pick (Operand.tmp 22) (Operand.tmp 25) (Operand.const (Value.bool false)), type := 4, pos := "law.go:59", after := _, guard := none }) (v := ?_) rfl (by kernel_rfl) (by kernel_rfl) (by kernel_rfl) (fun _ _ _ h => h) (Or.inl ⟨by rfl, ?_⟩) (by assumption) ?_
  rotate_left
  · intro w hSw
    (try dsimp only at hSw)
    go_simp
    try with_reducible rfl
  try simp only [Act.put, List.setIfInBounds_toArray, List.set_cons_zero, List.set_cons_succ]
  refine wpAnyH_take (i := 12) (oi := { dst := some 27, op := Op.move (Operand.tmp 26), type := 4, pos := "law.go:59", after := _, guard := none }) (v := ?_) rfl (by kernel_rfl) (by kernel_rfl) (by kernel_rfl) (fun _ _ _ h => h) (Or.inl ⟨by rfl, ?_⟩) (by assumption) ?_
  rotate_left
  · intro w hSw
    (try dsimp only at hSw)
    go_simp
    try with_reducible rfl
  try simp only [Act.put, List.setIfInBounds_toArray, List.set_cons_zero, List.set_cons_succ]
  refine wpAnyH_take (i := 13) (oi := { dst := some 28, op := Op.move (Operand.tmp 4), type := 57, pos := "law.go:59", after := _, guard := some (12, true) }) (v := ?_) rfl (by kernel_rfl) (by kernel_rfl) (by kernel_rfl) (fun _ _ _ h => h) (Or.inl ⟨by rfl, ?_⟩) (by assumption) ?_
  rotate_left
  · intro w hSw
    (try dsimp only at hSw)
    go_simp
    try with_reducible rfl
  try simp only [Act.put, List.setIfInBounds_toArray, List.set_cons_zero, List.set_cons_succ]
  refine wpAnyH_take (i := 14) (oi := { dst := some 29, op := Op.indexAddr 57 (Operand.tmp 28) (Operand.const (Value.int IntKind.i64 0)), type := 0, pos := "law.go:59", after := _, guard := some (12, true) }) (v := ?_) rfl (by kernel_rfl) (by kernel_rfl) (by kernel_rfl) (fun _ _ _ h => h) (Or.inl ⟨by rfl, ?_⟩) (by assumption) ?_
  rotate_left
  · intro w hSw
    (try dsimp only at hSw)
    go_simp
    try with_reducible rfl
  try simp only [Act.put, List.setIfInBounds_toArray, List.set_cons_zero, List.set_cons_succ]
  refine wpAnyH_take (i := 15) (oi := { dst := some 30, op := Op.fieldAddr 60 (Operand.tmp 29) 2, type := 0, pos := "law.go:59", after := _, guard := some (12, true) }) (v := ?_) rfl (by kernel_rfl) (by kernel_rfl) (by kernel_rfl) (fun _ _ _ h => h) (Or.inl ⟨by rfl, ?_⟩) (by assumption) ?_
  rotate_left
  · intro w hSw
    (try dsimp only at hSw)
    go_simp
    try with_reducible rfl
  try simp only [Act.put, List.setIfInBounds_toArray, List.set_cons_zero, List.set_cons_succ]
  refine wpAnyH_take (i := 16) (oi := { dst := some 31, op := Op.load 38 (Operand.tmp 30), type := 38, pos := "law.go:59", after := _, guard := some (12, true) }) (v := ?_) rfl (by kernel_rfl) (by kernel_rfl) (by kernel_rfl) (fun _ _ _ h => h) (Or.inl ⟨by rfl, ?_⟩) (by assumption) ?_
  rotate_left
  · intro w hSw
    (try dsimp only at hSw)
    go_simp
    try with_reducible rfl
  try simp only [Act.put, List.setIfInBounds_toArray, List.set_cons_zero, List.set_cons_succ]
  refine wpAnyH_ready (rs := [17]) (by kernel_rfl) (by simp) ?_
  refine AllReadyH.cons (o := { dst := some 32, op := Op.call { callee := Callee.value (Operand.func 21), args := #[], argTypes := #[] }, type := 38, pos := "law.go:59", after := _, guard := some (12, true) }) rfl (fun K hK => ?_) AllReadyH.nil
  go_simp
  go_at_call 21
  refine (HO.out _).mono ?_
  rintro e7 w7 ⟨rfl, hb7⟩
  first
    | refine hK.out _ _ ?_ (fun hHeld => ?_)
    | (go_wp2_with fail; refine hK.out _ _ ?_ (fun hHeld => ?_))
  · exact (KB.out w5.drew _ HS0.out hb7)
  clear hK K
  try simp only [Act.put, List.setIfInBounds_toArray, List.set_cons_zero, List.set_cons_succ]
  refine wpAnyH_take (i := 18) (oi := { dst := some 33, op := Op.binOp BinOp.eql 38 (Operand.tmp 31) (Operand.tmp 32) 38, type := 4, pos := "law.go:59", after := _, guard := some (12, true) }) (v := ?_) rfl (by kernel_rfl) (by kernel_rfl) (by kernel_rfl) (fun _ _ _ h => h) (Or.inl ⟨by rfl, ?_⟩) (by assumption) ?_
  rotate_left
  · intro w hSw
    (try dsimp only at hSw)
    go_simp
    try with_reducible rfl
  try simp only [Act.put, List.setIfInBounds_toArray, List.set_cons_zero, List.set_cons_succ]
  refine wpAnyH_take (i := 19) (oi := { dst := some 34, op := Op.pick (Operand.tmp 27) (Operand.tmp 33) (Operand.const (Value.bool false)), type := 4, pos := "law.go:59", after := _, guard := none }) (v := ?_) rfl (by kernel_rfl) (by kernel_rfl) (by kernel_rfl) (fun _ _ _ h => h) (Or.inl ⟨by rfl, ?_⟩) (by assumption) ?_
  rotate_left
  · intro w hSw
    (try dsimp only at hSw)
    go_simp
    try with_reducible rfl
  try simp only [Act.put, List.setIfInBounds_toArray, List.set_cons_zero, List.set_cons_succ]
  refine wpAnyH_take (i := 20) (oi := { dst := some 35, op := Op.move (Operand.tmp 34), type := 4, pos := "law.go:59", after := _, guard := none }) (v := ?_) rfl (by kernel_rfl) (by kernel_rfl) (by kernel_rfl) (fun _ _ _ h => h) (Or.inl ⟨by rfl, ?_⟩) (by assumption) ?_
  rotate_left
  · intro w hSw
    (try dsimp only at hSw)
    go_simp
    try with_reducible rfl
  try simp only [Act.put, List.setIfInBounds_toArray, List.set_cons_zero, List.set_cons_succ]
  refine wpAnyH_take (i := 21) (oi := { dst := some 36, op := Op.move (Operand.tmp 1), type := 25, pos := "law.go:59", after := _, guard := some (20, true) }) (v := ?_) rfl (by kernel_rfl) (by kernel_rfl) (by kernel_rfl) (fun _ _ _ h => h) (Or.inl ⟨by rfl, ?_⟩) (by assumption) ?_
  rotate_left
  · intro w hSw
    (try dsimp only at hSw)
    go_simp
    try with_reducible rfl
  try simp only [Act.put, List.setIfInBounds_toArray, List.set_cons_zero, List.set_cons_succ]
  refine wpAnyH_ready (rs := [22]) (by kernel_rfl) (by simp) ?_
  refine AllReadyH.cons (o := { dst := some 37, op := Op.call { callee := Callee.value (Operand.func 8), args := #[Operand.tmp 36, Operand.const (Value.int IntKind.i64 7)], argTypes := #[25, 3] }, type := 3, pos := "law.go:59", after := _, guard := some (20, true) }) rfl (fun K hK => ?_) AllReadyH.nil
  go_simp
  go_at_call 8
  refine (HR7.out _ (HSD.out.below hb7)).mono ?_
  rintro e8 w8 ⟨rfl, hs8, hc8⟩
  first
    | refine hK.out _ _ ?_ (fun hHeld => ?_)
    | (go_wp2_with fail; refine hK.out _ _ ?_ (fun hHeld => ?_))
  · exact (KC.out _ _ (KB.out w5.drew _ HS0.out hb7) (HSD.out.below hb7) hc8)
  clear hK K
  try simp only [Act.put, List.setIfInBounds_toArray, List.set_cons_zero, List.set_cons_succ]
  refine wpAnyH_take (i := 23) (oi := { dst := some 38, op := Op.binOp BinOp.eql 3 (Operand.tmp 37) (Operand.const (Value.int IntKind.i64 0)) 3, type := 4, pos := "law.go:59", after := _, guard := some (20, true) }) (v := ?_) rfl (by kernel_rfl) (by kernel_rfl) (by kernel_rfl) (fun _ _ _ h => h) (Or.inl ⟨by rfl, ?_⟩) (by assumption) ?_
  rotate_left
  · intro w hSw
    (try dsimp only at hSw)
    go_simp
    try with_reducible rfl
  try simp only [Act.put, List.setIfInBounds_toArray, List.set_cons_zero, List.set_cons_succ]
  refine wpAnyH_take (i := 24) (oi := { dst := some 39, op := Op.pick (Operand.tmp 35) (Operand.tmp 38) (Operand.const (Value.bool false)), type := 4, pos := "law.go:59", after := _, guard := none }) (v := ?_) rfl (by kernel_rfl) (by kernel_rfl) (by kernel_rfl) (fun _ _ _ h => h) (Or.inl ⟨by rfl, ?_⟩) (by assumption) ?_
  rotate_left
  · intro w hSw
    (try dsimp only at hSw)
    go_simp
    try with_reducible rfl
  try simp only [Act.put, List.setIfInBounds_toArray, List.set_cons_zero, List.set_cons_succ]
  refine wpAnyH_take (i := 25) (oi := { dst := some 40, op := Op.move (Operand.tmp 39), type := 4, pos := "law.go:59", after := _, guard := none }) (v := ?_) rfl (by kernel_rfl) (by kernel_rfl) (by kernel_rfl) (fun _ _ _ h => h) (Or.inl ⟨by rfl, ?_⟩) (by assumption) ?_
  rotate_left
  · intro w hSw
    (try dsimp only at hSw)
    go_simp
    try with_reducible rfl
  try simp only [Act.put, List.setIfInBounds_toArray, List.set_cons_zero, List.set_cons_succ]
  refine wpAnyH_take (i := 26) (oi := { dst := some 41, op := Op.move (Operand.tmp 1), type := 25, pos := "law.go:59", after := _, guard := some (25, true) }) (v := ?_) rfl (by kernel_rfl) (by kernel_rfl) (by kernel_rfl) (fun _ _ _ h => h) (Or.inl ⟨by rfl, ?_⟩) (by assumption) ?_
  rotate_left
  · intro w hSw
    (try dsimp only at hSw)
    go_simp
    try with_reducible rfl
  try simp only [Act.put, List.setIfInBounds_toArray, List.set_cons_zero, List.set_cons_succ]
  refine wpAnyH_ready (rs := [27]) (by kernel_rfl) (by simp) ?_
  refine AllReadyH.cons (o := { dst := some 42, op := Op.call { callee := Callee.value (Operand.func 23), args := #[Operand.tmp 41], argTypes := #[25] }, type := 47, pos := "law.go:59", after := _, guard := some (25, true) }) rfl (fun K hK => ?_) AllReadyH.nil
  go_simp
  go_at_call 23
  refine (HIM.out _ hs8).mono ?_
  rintro e9 w9 ⟨p9, n9, c9, rfl, hn9, hb9⟩
  first
    | refine hK.out _ _ ?_ (fun hHeld => ?_)
    | (go_wp2_with fail; refine hK.out _ _ ?_ (fun hHeld => ?_))
  · exact (KB.out _ _ (KC.out _ _ (KB.out w5.drew _ HS0.out hb7) (HSD.out.below hb7) hc8) hb9)
  clear hK K
  try simp only [Act.put, List.setIfInBounds_toArray, List.set_cons_zero, List.set_cons_succ]
  refine wpAnyH_take (i := 28) (oi := { dst := some 43, op := Op.call { callee := Callee.builtin Builtin.len, args := #[Operand.tmp 42], argTypes := #[47] }, type := 3, pos := "law.go:59", after := _, guard := some (25, true) }) (v := ?_) rfl (by kernel_rfl) (by kernel_rfl) (by kernel_rfl) (fun _ _ _ h => h) (Or.inl ⟨by rfl, ?_⟩) (by assumption) ?_
  rotate_left
  · intro w hSw
    (try dsimp only at hSw)
    go_simp
    try with_reducible rfl
  try simp only [Act.put, List.setIfInBounds_toArray, List.set_cons_zero, List.set_cons_succ]
  refine wpAnyH_take (i := 29) (oi := { dst := some 44, op := Op.binOp BinOp.gtr 3 (Operand.tmp 43) (Operand.const (Value.int IntKind.i64 5)) 3, type := 4, pos := "law.go:59", after := _, guard := some (25, true) }) (v := ?_) rfl (by kernel_rfl) (by kernel_rfl) (by kernel_rfl) (fun _ _ _ h => h) (Or.inl ⟨by rfl, ?_⟩) (by assumption) ?_
  rotate_left
  · intro w hSw
    (try dsimp only at hSw)
    go_simp
    try with_reducible rfl
  try simp only [Act.put, List.setIfInBounds_toArray, List.set_cons_zero, List.set_cons_succ]
  refine wpAnyH_take (i := 30) (oi := { dst := some 45, op := Op.pick (Operand.tmp 40) (Operand.tmp 44) (Operand.const (Value.bool false)), type := 4, pos := "law.go:59", after := _, guard := none }) (v := ?_) rfl (by kernel_rfl) (by kernel_rfl) (by kernel_rfl) (fun _ _ _ h => h) (Or.inl ⟨by rfl, ?_⟩) (by assumption) ?_
  rotate_left
  · intro w hSw
    (try dsimp only at hSw)
    go_simp
    try with_reducible rfl
  try simp only [Act.put, List.setIfInBounds_toArray, List.set_cons_zero, List.set_cons_succ]
  refine wpAnyH_take (i := 31) (oi := { dst := some 46, op := Op.move (Operand.tmp 45), type := 4, pos := "law.go:59", after := _, guard := none }) (v := ?_) rfl (by kernel_rfl) (by kernel_rfl) (by kernel_rfl) (fun _ _ _ h => h) (Or.inl ⟨by rfl, ?_⟩) (by assumption) ?_
  rotate_left
  · intro w hSw
    (try dsimp only at hSw)
    go_simp
    try with_reducible rfl
  try simp only [Act.put, List.setIfInBounds_toArray, List.set_cons_zero, List.set_cons_succ]
  refine wpAnyH_take (i := 32) (oi := { dst := some 47, op := Op.move (Operand.tmp 1), type := 25, pos := "law.go:59", after := _, guard := some (31, true) }) (v := ?_) rfl (by kernel_rfl) (by kernel_rfl) (by kernel_rfl) (fun _ _ _ h => h) (Or.inl ⟨by rfl, ?_⟩) (by assumption) ?_
  rotate_left
  · intro w hSw
    (try dsimp only at hSw)
    go_simp
    try with_reducible rfl
  try simp only [Act.put, List.setIfInBounds_toArray, List.set_cons_zero, List.set_cons_succ]
  refine wpAnyH_ready (rs := [33]) (by kernel_rfl) (by simp) ?_
  refine AllReadyH.cons (o := { dst := some 48, op := Op.call { callee := Callee.value (Operand.func 8), args := #[Operand.tmp 47, Operand.const (Value.int IntKind.i64 8)], argTypes := #[25, 3] }, type := 3, pos := "law.go:59", after := _, guard := some (31, true) }) rfl (fun K hK => ?_) AllReadyH.nil
  go_simp
  go_at_call 8
  refine (HR8.out _ (hs8.below hb9)).mono ?_
  rintro e10 w10 ⟨rfl, hs10, hc10⟩
  first
    | refine hK.out _ _ ?_ (fun hHeld => ?_)
    | (go_wp2_with fail; refine hK.out _ _ ?_ (fun hHeld => ?_))
  · exact (KC.out _ _ (KB.out _ _ (KC.out _ _ (KB.out w5.drew _ HS0.out hb7) (HSD.out.below hb7) hc8) hb9) (hs8.below hb9) hc10)
  clear hK K
  try simp only [Act.put, List.setIfInBounds_toArray, List.set_cons_zero, List.set_cons_succ]
  refine wpAnyH_take (i := 34) (oi := { dst := some 49, op := Op.binOp BinOp.eql 3 (Operand.tmp 48) (Operand.const (Value.int IntKind.i64 1)) 3, type := 4, pos := "law.go:59", after := _, guard := some (31, true) }) (v := ?_) rfl (by kernel_rfl) (by kernel_rfl) (by kernel_rfl) (fun _ _ _ h => h) (Or.inl ⟨by rfl, ?_⟩) (by assumption) ?_
  rotate_left
  · intro w hSw
    (try dsimp only at hSw)
    go_simp
    try with_reducible rfl
  try simp only [Act.put, List.setIfInBounds_toArray, List.set_cons_zero, List.set_cons_succ]
  refine wpAnyH_take (i := 35) (oi := { dst := some 50, op := Op.pick (Operand.tmp 46) (Operand.tmp 49) (Operand.const (Value.bool false)), type := 4, pos := "law.go:59", after := _, guard := none }) (v := ?_) rfl (by kernel_rfl) (by kernel_rfl) (by kernel_rfl) (fun _ _ _ h => h) (Or.inl ⟨by rfl, ?_⟩) (by assumption) ?_
  rotate_left
  · intro w hSw
    (try dsimp only at hSw)
    go_simp
    try with_reducible rfl
  try simp only [Act.put, List.setIfInBounds_toArray, List.set_cons_zero, List.set_cons_succ]
  refine wpAnyH_take (i := 36) (oi := { dst := some 51, op := Op.move (Operand.tmp 50), type := 4, pos := "law.go:59", after := _, guard := none }) (v := ?_) rfl (by kernel_rfl) (by kernel_rfl) (by kernel_rfl) (fun _ _ _ h => h) (Or.inl ⟨by rfl, ?_⟩) (by assumption) ?_
  rotate_left
  · intro w hSw
    (try dsimp only at hSw)
    go_simp
    try with_reducible rfl
  try simp only [Act.put, List.setIfInBounds_toArray, List.set_cons_zero, List.set_cons_succ]
  refine wpAnyH_take (i := 37) (oi := { dst := some 52, op := Op.move (Operand.tmp 1), type := 25, pos := "law.go:59", after := _, guard := some (36, true) }) (v := ?_) rfl (by kernel_rfl) (by kernel_rfl) (by kernel_rfl) (fun _ _ _ h => h) (Or.inl ⟨by rfl, ?_⟩) (by assumption) ?_
  rotate_left
  · intro w hSw
    (try dsimp only at hSw)
    go_simp
    try with_reducible rfl
  try simp only [Act.put, List.setIfInBounds_toArray, List.set_cons_zero, List.set_cons_succ]
  refine wpAnyH_ready (rs := [38]) (by kernel_rfl) (by simp) ?_
  refine AllReadyH.cons (o := { dst := some 53, op := Op.call { callee := Callee.value (Operand.func 24), args := #[Operand.tmp 52], argTypes := #[25] }, type := 62, pos := "law.go:59", after := _, guard := some (36, true) }) rfl (fun K hK => ?_) AllReadyH.nil
  go_simp
  go_at_call 24
  refine (HTR.out _ hs10).mono ?_
  rintro e11 w11 ⟨p11, c11, rfl, hb11⟩
  first
    | refine hK.out _ _ ?_ (fun hHeld => ?_)
    | (go_wp2_with fail; refine hK.out _ _ ?_ (fun hHeld => ?_))
  · exact (KB.out _ _ (KC.out _ _ (KB.out _ _ (KC.out _ _ (KB.out w5.drew _ HS0.out hb7) (HSD.out.below hb7) hc8) hb9) (hs8.below hb9) hc10) hb11)
  clear hK K
  try simp only [Act.put, List.setIfInBounds_toArray, List.set_cons_zero, List.set_cons_succ]
  refine wpAnyH_take (i := 39) (oi := { dst := some 54, op := Op.call { callee := Callee.builtin Builtin.len, args := #[Operand.tmp 53], argTypes := #[62] }, type := 3, pos := "law.go:59", after := _, guard := some (36, true) }) (v := ?_) rfl (by kernel_rfl) (by kernel_rfl) (by kernel_rfl) (fun _ _ _ h => h) (Or.inl ⟨by rfl, ?_⟩) (by assumption) ?_
  rotate_left
  · intro w hSw
    (try dsimp only at hSw)
    go_simp
    try with_reducible rfl
  try simp only [Act.put, List.setIfInBounds_toArray, List.set_cons_zero, List.set_cons_succ]
  refine wpAnyH_take (i := 40) (oi := { dst := some 55, op := Op.binOp BinOp.eql 3 (Operand.tmp 54) (Operand.const (Value.int IntKind.i64 0)) 3, type := 4, pos := "law.go:59", after := _, guard := some (36, true) }) (v := ?_) rfl (by kernel_rfl) (by kernel_rfl) (by kernel_rfl) (fun _ _ _ h => h) (Or.inl ⟨by rfl, ?_⟩) (by assumption) ?_
  rotate_left
  · intro w hSw
    (try dsimp only at hSw)
    go_simp
    try with_reducible rfl
  try simp only [Act.put, List.setIfInBounds_toArray, List.set_cons_zero, List.set_cons_succ]
  refine wpAnyH_take (i := 41) (oi := { dst := some 56, op := Op.pick (Operand.tmp 51) (Operand.tmp 55) (Operand.const (Value.bool false)), type := 4, pos := "law.go:59", after := _, guard := none }) (v := ?_) rfl (by kernel_rfl) (by kernel_rfl) (by kernel_rfl) (fun _ _ _ h => h) (Or.inl ⟨by rfl, ?_⟩) (by assumption) ?_
  rotate_left
  · intro w hSw
    (try dsimp only at hSw)
    go_simp
    try with_reducible rfl
  try simp only [Act.put, List.setIfInBounds_toArray, List.set_cons_zero, List.set_cons_succ]
  refine wpAnyH_take (i := 42) (oi := { dst := some 0, op := Op.assign (Operand.tmp 56), type := 4, pos := "law.go:59", after := _, guard := none }) (v := ?_) rfl (by kernel_rfl) (by kernel_rfl) (by kernel_rfl) (fun _ _ _ h => h) (Or.inl ⟨by rfl, ?_⟩) (by assumption) ?_
  rotate_left
  · intro w hSw
    (try dsimp only at hSw)
    go_simp
    try with_reducible rfl
  try simp only [Act.put, List.setIfInBounds_toArray, List.set_cons_zero, List.set_cons_succ]
  refine wpAnyH_done (by kernel_rfl) ?_ _
  have HBZ : Hid (Below w.heap.size w w11) := hide (by
    have h7 : Below w.heap.size w w7 := (HB5.out.trans ((bdrew w5 1).mono (Nat.le_refl _))).trans (hb7.mono HB5.out.size)
    have h8 := Chg.to_below h7 hc8 HNW.out
    have h9 := h8.trans (hb9.mono h8.size)
    have h10 := Chg.to_below h9 hc10 HNW.out
    exact h10.trans (hb11.mono h10.size))
  clear hb7 hs8 hc8 hb9 hs10 hc10 hb11
  go_wp2
  go_ret
  exact ⟨rfl, HBZ.out⟩
end Go.Proofs.YtfedkjaollioaaaGreat
