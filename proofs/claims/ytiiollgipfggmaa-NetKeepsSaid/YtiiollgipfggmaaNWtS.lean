/- weight, and what a small one says. -/
import Derived.Test.YtiiollgipfggmaaNCode
namespace Go.Proofs.Ytiiollgipfggmaa
set_option linter.unusedVariables false
set_option linter.unusedSimpArgs false
open Go.RowKit

/-- A message whose lists are short. -/
def SmallM (m : Ms) : Prop := m.vs.length ≤ 65536 ∧ m.d.length ≤ 65536 ∧ m.es.length ≤ 65536 ∧ ∀ e ∈ m.es, e.d.length ≤ 65536
def WtL (L : List Ms) (x : Int) : Prop := 0 ≤ x ∧ x ≤ 200000 ∧ (x ≤ 65536 → (L.length : Int) * 20 ≤ x ∧ ∀ m ∈ L, SmallM m)
def WtPost (L : List Ms) (e : Ending) : Prop := ∃ x, e = .returned (.int .i64 x) ∧ WtL L x
theorem wtL_next {L : List Ms} {k : Nat} {m : Ms} {b b2 : Int} {mv md j nv nd ne : Nat} (hk : L[k]? = some m) (h : 0 ≤ b ∧ (b ≤ 65536 → (k : Int) * 20 ≤ b ∧ ∀ m ∈ L.take k, SmallM m)) (hv : nv = m.vs.length) (hd : nd = m.d.length) (hne : ne = m.es.length)
    (hmv : min (nv : Int) 65536 = (mv : Int)) (hmd : min (nd : Int) 65536 = (md : Int)) (hb : b + (20 + mv + md) + (j : Int) * 20 ≤ b2) (hj : b2 ≤ 65536 → j = ne ∧ ∀ e ∈ m.es.take j, e.d.length ≤ 65536) :
    b2 ≤ 65536 → ((k + 1 : Nat) : Int) * 20 ≤ b2 ∧ ∀ m ∈ L.take (k + 1), SmallM m := fun hle => by
  obtain ⟨h1, h2⟩ := h.2 (by omega)
  obtain ⟨rfl, h3⟩ := hj hle
  refine ⟨by omega, fun x hx => ?_⟩
  rw [List.take_add_one, hk] at hx
  simp only [Option.toList_some, List.mem_append, List.mem_singleton] at hx
  rcases hx with hx | rfl
  · exact h2 x hx
  · refine ⟨by omega, by omega, by omega, ?_⟩
    rwa [List.take_of_length_le (by omega)] at h3
theorem esS_next {l : List En} {j : Nat} {e : En} (he : l[j]? = some e) (h : ∀ e ∈ l.take j, e.d.length ≤ 65536) (hd : e.d.length ≤ 65536) : ∀ e ∈ l.take (j + 1), e.d.length ≤ 65536 := fun x hx => by
  rw [List.take_add_one, he] at hx
  simp only [Option.toList_some, List.mem_append, List.mem_singleton] at hx
  rcases hx with hx | rfl
  · exact h x hx
  · exact hd
set_option maxRecDepth 200000 in
set_option maxHeartbeats 4000000 in
theorem weightS_any {w : World} {v : Value} {L : List Ms} (h : Mss w v L) : Calls Try.prog 10 #[v] w fun e w' => WtPost L e ∧ Below w.heap.size w w' := by
  obtain ⟨p, c, rfl, hlc, hcm, hx⟩ := h
  have HX := hide hx
  have hn9 : (L.length : Int) ≤ 9223372036854775807 := by unfold maxLen at hcm; omega
  obtain ⟨n, hn⟩ : ∃ n, L.length = n := ⟨_, rfl⟩
  rw [hn] at hn9 ⊢
  have HN := hide hn
  clear hlc hcm hx hn
  go_enter Try.func10, Try.ntmps10
  go_wp2_with fail
  go_loopw [3, 4, 5] (fun a i _ wr => ∃ (k : Nat) (b : Int), k ≤ n ∧ i = .int .i64 k ∧ a = .int .i64 b ∧ 0 ≤ b ∧ b ≤ 200000 ∧ Hid (Below w.heap.size w wr) ∧ Hid (b ≤ 65536 → (k : Int) * 20 ≤ b ∧ ∀ m ∈ L.take k, SmallM m)) (fun _ i _ _ => n - (intOf i).toNat)
  case atStart => exact ⟨0, 0, by omega, rfl, rfl, by omega, by omega, hide (Below.refl _ _), hide fun _ => ⟨by omega, by simp⟩⟩
  case round =>
    obtain ⟨k, b, hk, rfl, rfl, hb0, hb1, HBW, HSM⟩ := hrel
    by_cases hlt : k < n
    · have e1 : decide ((k : Int) < (n : Int)) = true := decide_eq_true (by omega)
      by_cases hb : b ≤ 65536
      · have e2 : decide (b ≤ 65536) = true := decide_eq_true hb
        have hkL : k < L.length := by have := HN.out; omega
        obtain ⟨m, hm⟩ : ∃ m, L[k]? = some m := ⟨_, List.getElem?_eq_getElem hkL⟩
        obtain ⟨g2, o2, ve, vv, vd, rfl, hmv, hc⟩ := HX.out k m hm
        replace hmv := hmv.below HBW.out
        replace hc : ∀ (j : Nat) x, (msC m ve vv vd)[j]? = some x → wr.cell? ⟨g2, o2 + k * 13 + j, none⟩ = some x := fun j x hj => by
          have h1 := hc j x hj
          exact (HBW.out.cell (lt_of_cell h1)).trans h1
        obtain ⟨pe, ne, ce, rfl⟩ := hmv.es.sl
        obtain ⟨pv, nv, cv, rfl⟩ := hmv.vs.sl
        obtain ⟨pd, nd, cd, rfl⟩ := hmv.d.sl
        obtain ⟨oo, hoo⟩ : ∃ oo, o2 + k * 13 = oo := ⟨_, rfl⟩
        rw [hoo] at hc
        have c10 := hc 10 _ rfl
        have c11 := hc 11 _ rfl
        have c12 := hc 12 _ rfl
        have hne := hmv.es.len
        obtain ⟨hne1, hne2, hne3⟩ := hne
        have hE := hmv.es
        have HE := hide hE
        have HNE := hide hne1
        have HNV := hide hmv.vs.len.1
        have HND := hide hmv.d.len.1
        have HMM := hide hm
        have hnem : (ne : Int) ≤ 9223372036854775807 := by unfold maxLen at hne3; omega
        obtain ⟨mv, hmv1, hmv2⟩ : ∃ mn : Nat, min (nv : Int) 65536 = (mn : Int) ∧ mn ≤ 65536 := ⟨min nv 65536, by omega, by omega⟩
        obtain ⟨md, hmd1, hmd2⟩ : ∃ mn : Nat, min (nd : Int) 65536 = (mn : Int) ∧ mn ≤ 65536 := ⟨min nd 65536, by omega, by omega⟩
        have HMV := hide hmv1
        have HMD := hide hmd1
        have WR1 : Hid (IntKind.i64.wrap (20 + (mv : Int)) = 20 + mv) := hide (by rw [IntKind.wrap_i64]; omega)
        have WR2 : Hid (IntKind.i64.wrap (20 + (mv : Int) + md) = 20 + mv + md) := hide (by rw [IntKind.wrap_i64]; omega)
        have WR3 : Hid (IntKind.i64.wrap (b + (20 + (mv : Int) + md)) = b + (20 + mv + md)) := hide (by rw [IntKind.wrap_i64]; omega)
        have j0 : (0 : Int) ≤ (k : Int) := by omega
        have j1 : (k : Int) < (n : Int) := by omega
        clear hm hkL hmv hc hne1 hne2 hne3 hE
        go_upto_region 5 with fail
        refine wp_region_held_drew (S := fun V => V.cell? ⟨g2, oo + 11, none⟩ = some (.slice pv nv cv) ∧ V.cell? ⟨g2, oo + 12, none⟩ = some (.slice pd nd cd)) (by kernel_rfl) ?_ (fun hHeld => ?_)
        · (try dsimp only)
          exact ⟨c11, c12⟩
        refine wpAnyH_take (i := 0) (oi := { dst := some 16, op := Op.move (Operand.tmp 3), type := 3, pos := "law.go:27", after := #[], guard := none }) (v := ?_) rfl (by kernel_rfl) (by kernel_rfl) (by kernel_rfl) (fun _ _ _ h => h) (Or.inl ⟨by rfl, ?_⟩) (by assumption) ?_
        rotate_left
        · intro w hSw
          (try dsimp only at hSw)
          go_simp
          try with_reducible rfl
        try simp only [Act.put, List.setIfInBounds_toArray, List.set_cons_zero, List.set_cons_succ]
        refine wpAnyH_take (i := 1) (oi := { dst := some 17, op := Op.move (Operand.tmp 0), type := 28, pos := "law.go:27", after := #[], guard := none }) (v := ?_) rfl (by kernel_rfl) (by kernel_rfl) (by kernel_rfl) (fun _ _ _ h => h) (Or.inl ⟨by rfl, ?_⟩) (by assumption) ?_
        rotate_left
        · intro w hSw
          (try dsimp only at hSw)
          go_simp
          try with_reducible rfl
        try simp only [Act.put, List.setIfInBounds_toArray, List.set_cons_zero, List.set_cons_succ]
        refine wpAnyH_take (i := 2) (oi := { dst := some 18, op := Op.move (Operand.tmp 4), type := 3, pos := "law.go:27", after := #[], guard := none }) (v := ?_) rfl (by kernel_rfl) (by kernel_rfl) (by kernel_rfl) (fun _ _ _ h => h) (Or.inl ⟨by rfl, ?_⟩) (by assumption) ?_
        rotate_left
        · intro w hSw
          (try dsimp only at hSw)
          go_simp
          try with_reducible rfl
        try simp only [Act.put, List.setIfInBounds_toArray, List.set_cons_zero, List.set_cons_succ]
        refine wpAnyH_take (i := 3) (oi := { dst := some 19, op := Op.indexAddr 28 (Operand.tmp 17) (Operand.tmp 18), type := 0, pos := "law.go:27", after := _, guard := none }) (v := ?_) rfl (by kernel_rfl) (by kernel_rfl) (by kernel_rfl) (fun _ _ _ h => h) (Or.inl ⟨by rfl, ?_⟩) (by assumption) ?_
        rotate_left
        · intro w hSw
          (try dsimp only at hSw)
          go_simp
          try with_reducible rfl
        try simp only [Act.put, List.setIfInBounds_toArray, List.set_cons_zero, List.set_cons_succ]
        refine wpAnyH_take (i := 4) (oi := { dst := some 20, op := Op.fieldAddr 26 (Operand.tmp 19) 11, type := 0, pos := "law.go:27", after := _, guard := none }) (v := ?_) rfl (by kernel_rfl) (by kernel_rfl) (by kernel_rfl) (fun _ _ _ h => h) (Or.inl ⟨by rfl, ?_⟩) (by assumption) ?_
        rotate_left
        · intro w hSw
          (try dsimp only at hSw)
          go_simp
          try with_reducible rfl
        try simp only [Act.put, List.setIfInBounds_toArray, List.set_cons_zero, List.set_cons_succ]
        refine wpAnyH_take (i := 5) (oi := { dst := some 21, op := Op.load 23 (Operand.tmp 20), type := 23, pos := "law.go:27", after := _, guard := none }) (v := ?_) rfl (by kernel_rfl) (by kernel_rfl) (by kernel_rfl) (fun _ _ _ h => h) (Or.inl ⟨by rfl, ?_⟩) (by assumption) ?_
        rotate_left
        · intro w hSw
          (try dsimp only at hSw)
          go_simp
          try with_reducible rfl
        try simp only [Act.put, List.setIfInBounds_toArray, List.set_cons_zero, List.set_cons_succ]
        refine wpAnyH_take (i := 6) (oi := { dst := some 22, op := Op.call { callee := Callee.builtin Builtin.len, args := #[Operand.tmp 21], argTypes := #[23] }, type := 3, pos := "law.go:27", after := _, guard := none }) (v := ?_) rfl (by kernel_rfl) (by kernel_rfl) (by kernel_rfl) (fun _ _ _ h => h) (Or.inl ⟨by rfl, ?_⟩) (by assumption) ?_
        rotate_left
        · intro w hSw
          (try dsimp only at hSw)
          go_simp
          try with_reducible rfl
        try simp only [Act.put, List.setIfInBounds_toArray, List.set_cons_zero, List.set_cons_succ]
        refine wpAnyH_take (i := 7) (oi := { dst := some 23, op := Op.call { callee := Callee.builtin Builtin.min, args := #[Operand.tmp 22, Operand.const (Value.int IntKind.i64 65536)], argTypes := #[3, 3] }, type := 3, pos := "law.go:27", after := _, guard := none }) (v := ?_) rfl (by kernel_rfl) (by kernel_rfl) (by kernel_rfl) (fun _ _ _ h => h) (Or.inl ⟨by rfl, ?_⟩) (by assumption) ?_
        rotate_left
        · intro w hSw
          (try dsimp only at hSw)
          go_simp
          try with_reducible rfl
        try simp only [Act.put, List.setIfInBounds_toArray, List.set_cons_zero, List.set_cons_succ]
        refine wpAnyH_take (i := 8) (oi := { dst := some 24, op := Op.binOp BinOp.add 3 (Operand.const (Value.int IntKind.i64 20)) (Operand.tmp 23) 3, type := 3, pos := "law.go:27", after := _, guard := none }) (v := ?_) rfl (by kernel_rfl) (by kernel_rfl) (by kernel_rfl) (fun _ _ _ h => h) (Or.inl ⟨by rfl, ?_⟩) (by assumption) ?_
        rotate_left
        · intro w hSw
          (try dsimp only at hSw)
          go_simp
          try with_reducible rfl
        try simp only [Act.put, List.setIfInBounds_toArray, List.set_cons_zero, List.set_cons_succ]
        refine wpAnyH_take (i := 9) (oi := { dst := some 25, op := Op.move (Operand.tmp 0), type := 28, pos := "law.go:27", after := #[], guard := none }) (v := ?_) rfl (by kernel_rfl) (by kernel_rfl) (by kernel_rfl) (fun _ _ _ h => h) (Or.inl ⟨by rfl, ?_⟩) (by assumption) ?_
        rotate_left
        · intro w hSw
          (try dsimp only at hSw)
          go_simp
          try with_reducible rfl
        try simp only [Act.put, List.setIfInBounds_toArray, List.set_cons_zero, List.set_cons_succ]
        refine wpAnyH_take (i := 10) (oi := { dst := some 26, op := Op.move (Operand.tmp 4), type := 3, pos := "law.go:27", after := #[], guard := none }) (v := ?_) rfl (by kernel_rfl) (by kernel_rfl) (by kernel_rfl) (fun _ _ _ h => h) (Or.inl ⟨by rfl, ?_⟩) (by assumption) ?_
        rotate_left
        · intro w hSw
          (try dsimp only at hSw)
          go_simp
          try with_reducible rfl
        try simp only [Act.put, List.setIfInBounds_toArray, List.set_cons_zero, List.set_cons_succ]
        refine wpAnyH_take (i := 11) (oi := { dst := some 27, op := Op.indexAddr 28 (Operand.tmp 25) (Operand.tmp 26), type := 0, pos := "law.go:27", after := _, guard := none }) (v := ?_) rfl (by kernel_rfl) (by kernel_rfl) (by kernel_rfl) (fun _ _ _ h => h) (Or.inl ⟨by rfl, ?_⟩) (by assumption) ?_
        rotate_left
        · intro w hSw
          (try dsimp only at hSw)
          go_simp
          try with_reducible rfl
        try simp only [Act.put, List.setIfInBounds_toArray, List.set_cons_zero, List.set_cons_succ]
        refine wpAnyH_take (i := 12) (oi := { dst := some 28, op := Op.fieldAddr 26 (Operand.tmp 27) 12, type := 0, pos := "law.go:27", after := _, guard := none }) (v := ?_) rfl (by kernel_rfl) (by kernel_rfl) (by kernel_rfl) (fun _ _ _ h => h) (Or.inl ⟨by rfl, ?_⟩) (by assumption) ?_
        rotate_left
        · intro w hSw
          (try dsimp only at hSw)
          go_simp
          try with_reducible rfl
        try simp only [Act.put, List.setIfInBounds_toArray, List.set_cons_zero, List.set_cons_succ]
        refine wpAnyH_take (i := 13) (oi := { dst := some 29, op := Op.load 24 (Operand.tmp 28), type := 24, pos := "law.go:27", after := _, guard := none }) (v := ?_) rfl (by kernel_rfl) (by kernel_rfl) (by kernel_rfl) (fun _ _ _ h => h) (Or.inl ⟨by rfl, ?_⟩) (by assumption) ?_
        rotate_left
        · intro w hSw
          (try dsimp only at hSw)
          go_simp
          try with_reducible rfl
        try simp only [Act.put, List.setIfInBounds_toArray, List.set_cons_zero, List.set_cons_succ]
        refine wpAnyH_take (i := 14) (oi := { dst := some 30, op := Op.call { callee := Callee.builtin Builtin.len, args := #[Operand.tmp 29], argTypes := #[24] }, type := 3, pos := "law.go:27", after := _, guard := none }) (v := ?_) rfl (by kernel_rfl) (by kernel_rfl) (by kernel_rfl) (fun _ _ _ h => h) (Or.inl ⟨by rfl, ?_⟩) (by assumption) ?_
        rotate_left
        · intro w hSw
          (try dsimp only at hSw)
          go_simp
          try with_reducible rfl
        try simp only [Act.put, List.setIfInBounds_toArray, List.set_cons_zero, List.set_cons_succ]
        refine wpAnyH_take (i := 15) (oi := { dst := some 31, op := Op.call { callee := Callee.builtin Builtin.min, args := #[Operand.tmp 30, Operand.const (Value.int IntKind.i64 65536)], argTypes := #[3, 3] }, type := 3, pos := "law.go:27", after := _, guard := none }) (v := ?_) rfl (by kernel_rfl) (by kernel_rfl) (by kernel_rfl) (fun _ _ _ h => h) (Or.inl ⟨by rfl, ?_⟩) (by assumption) ?_
        rotate_left
        · intro w hSw
          (try dsimp only at hSw)
          go_simp
          try with_reducible rfl
        try simp only [Act.put, List.setIfInBounds_toArray, List.set_cons_zero, List.set_cons_succ]
        refine wpAnyH_take (i := 16) (oi := { dst := some 32, op := Op.binOp BinOp.add 3 (Operand.tmp 24) (Operand.tmp 31) 3, type := 3, pos := "law.go:27", after := _, guard := none }) (v := ?_) rfl (by kernel_rfl) (by kernel_rfl) (by kernel_rfl) (fun _ _ _ h => h) (Or.inl ⟨by rfl, ?_⟩) (by assumption) ?_
        rotate_left
        · intro w hSw
          (try dsimp only at hSw)
          go_simp
          try with_reducible rfl
        try simp only [Act.put, List.setIfInBounds_toArray, List.set_cons_zero, List.set_cons_succ]
        refine wpAnyH_take (i := 17) (oi := { dst := some 33, op := Op.binOp BinOp.add 3 (Operand.tmp 16) (Operand.tmp 32) 3, type := 3, pos := "law.go:27", after := _, guard := none }) (v := ?_) rfl (by kernel_rfl) (by kernel_rfl) (by kernel_rfl) (fun _ _ _ h => h) (Or.inl ⟨by rfl, ?_⟩) (by assumption) ?_
        rotate_left
        · intro w hSw
          (try dsimp only at hSw)
          go_simp
          try with_reducible rfl
        try simp only [Act.put, List.setIfInBounds_toArray, List.set_cons_zero, List.set_cons_succ]
        refine wpAnyH_take (i := 18) (oi := { dst := some 3, op := Op.assign (Operand.tmp 33), type := 3, pos := "law.go:27", after := _, guard := none }) (v := ?_) rfl (by kernel_rfl) (by kernel_rfl) (by kernel_rfl) (fun _ _ _ h => h) (Or.inl ⟨by rfl, ?_⟩) (by assumption) ?_
        rotate_left
        · intro w hSw
          (try dsimp only at hSw)
          go_simp
          try with_reducible rfl
        try simp only [Act.put, List.setIfInBounds_toArray, List.set_cons_zero, List.set_cons_succ]
        refine wpAnyH_done (by kernel_rfl) ?_ _
        go_wp2_with fail
        go_loop [3, 5] (fun a i => ∃ (j : Nat) (b2 : Int), j ≤ ne ∧ i = .int .i64 j ∧ a = .int .i64 b2 ∧ 0 ≤ b2 ∧ b2 ≤ 200000 ∧ Hid (b + (20 + mv + md) + (j : Int) * 20 ≤ b2 ∧ (b2 ≤ 65536 → ∀ e ∈ m.es.take j, e.d.length ≤ 65536))) (fun _ i => ne - (intOf i).toNat)
        case atStart => exact ⟨0, b + (20 + mv + md), by omega, rfl, by rw [WR1.out, WR2.out, WR3.out], by omega, by omega, hide ⟨by omega, fun _ => by simp⟩⟩
        case round =>
          obtain ⟨j, b2, hj, rfl, rfl, hd0, hd1, HJ⟩ := hrel
          by_cases hjl : j < ne
          · have e3 : decide ((j : Int) < (ne : Int)) = true := decide_eq_true (by omega)
            by_cases hb2 : b2 ≤ 65536
            · have e4 : decide (b2 ≤ 65536) = true := decide_eq_true hb2
              obtain ⟨e, he⟩ : ∃ e, m.es[j]? = some e := ⟨_, List.getElem?_eq_getElem (by rw [← HNE.out]; exact hjl)⟩
              obtain ⟨g3, o3, pq, nq, cq, rfl, hat, hby, hnd⟩ := HE.out.at_ he
              have k2 := hat.c2
              dsimp only at k2
              obtain ⟨mq, hmq1, hmq2⟩ : ∃ mn : Nat, min (nq : Int) 65536 = (mn : Int) ∧ mn ≤ 65536 := ⟨min nq 65536, by omega, by omega⟩
              have HQ : Hid (b + (20 + mv + md) + ((j + 1 : Nat) : Int) * 20 ≤ b2 + (20 + mq) ∧ (b2 + (20 + (mq : Int)) ≤ 65536 → ∀ e ∈ m.es.take (j + 1), e.d.length ≤ 65536)) := hide ⟨by have := HJ.out.1; omega, fun hle => esS_next he (HJ.out.2 hb2) (by have := hby.len.1; omega)⟩
              have i0 : (0 : Int) ≤ (j : Int) := by omega
              have i1 : (j : Int) < (ne : Int) := by omega
              clear he hat hby hnd
              go_wp2
              go_round
              case rel => exact ⟨j + 1, b2 + (20 + mq), by omega, by go_num, by go_num, by omega, by omega, HQ⟩
              case measure => simp [intOf]; omega
            · have e4 : decide (b2 ≤ 65536) = false := decide_eq_false hb2
              go_wp2
              go_roundw
              case rel => exact ⟨k + 1, _, by omega, by go_num, rfl, by omega, by omega, hide (by first | exact HBW.out | exact bel_drewN HBW.out _ | exact bel_drewN HBW.out 1), hide (wtL_next HMM.out ⟨hb0, HSM.out⟩ HNV.out HND.out HNE.out HMV.out HMD.out HJ.out.1 fun hle => absurd hle hb2)⟩
              case measure => simp [intOf]; omega
          · have e3 : decide ((j : Int) < (ne : Int)) = false := decide_eq_false (by omega)
            go_wp2
            go_roundw
            case rel => exact ⟨k + 1, _, by omega, by go_num, rfl, by omega, by omega, hide (by first | exact HBW.out | exact bel_drewN HBW.out _ | exact bel_drewN HBW.out 1), hide (wtL_next HMM.out ⟨hb0, HSM.out⟩ HNV.out HND.out HNE.out HMV.out HMD.out HJ.out.1 fun hle => ⟨by omega, HJ.out.2 hle⟩)⟩
            case measure => simp [intOf]; omega
      · have e2 : decide (b ≤ 65536) = false := decide_eq_false hb
        go_wp2
        go_ret
        exact ⟨⟨_, rfl, hb0, hb1, fun hle => absurd hle (by omega)⟩, HBW.out⟩
    · have e1 : decide ((k : Int) < (n : Int)) = false := decide_eq_false (by omega)
      go_wp2
      go_ret
      exact ⟨⟨_, rfl, hb0, hb1, fun hle => by
        obtain ⟨h1, h2⟩ := HSM.out hle
        rw [List.take_of_length_le (by have := HN.out; omega)] at h2
        exact ⟨by have := HN.out; omega, h2⟩⟩, HBW.out⟩
end Go.Proofs.Ytiiollgipfggmaa
