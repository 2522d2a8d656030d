/- short. -/
import Derived.Test.YtgbdjcekpdfpjaaGreatDoorVSn
namespace Go.Proofs.YtgbdjcekpdfpjaaGreatDoor
set_option linter.unusedVariables false
set_option linter.unusedSimpArgs false
open Go.RowKit

def smN (l : List Ddo) : Nat := (l.map fun d => min d.sd.length 65537 + min d.sv.length 65536).sum
def daN (l : List Ddo) : Nat := (l.map fun d => d.sd.length).sum
theorem daN_le : ∀ l : List Ddo, smN l ≤ 65536 → daN l ≤ 65536
  | [], _ => by simp [daN]
  | d :: r, h => by
    unfold smN at h
    simp only [List.map_cons, List.sum_cons] at h
    have h2 := daN_le r (by unfold smN; omega)
    have key : ∀ r : List Ddo, smN r ≤ 65536 → daN r ≤ smN r := fun r => by
      induction r with
      | nil => intro _; simp [daN, smN]
      | cons a r ih =>
        intro h
        unfold smN daN at *
        simp only [List.map_cons, List.sum_cons] at *
        have := ih (by omega)
        omega
    have h3 := key r (by unfold smN; omega)
    unfold daN smN at *
    simp only [List.map_cons, List.sum_cons] at *
    omega
theorem smN_succ {l : List Ddo} {j : Nat} {d : Ddo} (h : l[j]? = some d) : smN (l.take (j + 1)) = smN (l.take j) + (min d.sd.length 65537 + min d.sv.length 65536) := by
  unfold smN
  rw [List.take_add_one, h]
  simp [List.sum_append]
/-- What short says. -/
def ShP (w : World) (D : List Ddo) (e : Ending) (w' : World) : Prop := ∃ b : Bool, e = .returned (.bool b) ∧ Below w.heap.size w w' ∧ (b = true → D.length ≤ 40 ∧ daN D ≤ 65536)

set_option maxRecDepth 100000 in
set_option maxHeartbeats 4000000 in
theorem vshort_any {w : World} {v : Value} {D : List Ddo} (h : Ddos w v D) : Calls Tryz.prog 11 #[v] w (ShP w D) := by
  obtain ⟨p, c, rfl, hc1, hc2, hat⟩ := h
  obtain ⟨len, hlen⟩ : ∃ len, D.length = len := ⟨_, rfl⟩
  rw [hlen] at hc1 ⊢
  unfold maxLen at hc2
  have HAT := hide hat
  have HL := hide hlen
  clear hat hlen
  go_enter Tryz.func11, Tryz.ntmps11
  go_wp2_with fail
  go_loopw [3, 4] (fun n i wr => ∃ (j : Nat), j ≤ len ∧ j ≤ 41 ∧ n = .int .i64 (smN (D.take j) : Nat) ∧ i = .int .i64 j ∧ Below w.heap.size w wr) (fun _ i _ => len - (intOf i).toNat)
  case atStart => exact ⟨0, by omega, by omega, by first | trivial | rfl, by first | trivial | rfl, Below.refl _ _⟩
  case round =>
    obtain ⟨j, hj, hj2, rfl, rfl, hbw⟩ := hrel
    have HB := hide hbw
    clear hbw
    obtain ⟨sm, hsm⟩ : ∃ sm, smN (D.take j) = sm := ⟨_, rfl⟩
    rw [hsm]
    have HSM := hide hsm
    clear hsm
    by_cases hjn : (j : Int) < (len : Int)
    · by_cases hj40 : (j : Int) ≤ 40
      · by_cases hsmall : (sm : Int) ≤ 65536
        · obtain ⟨d, hd⟩ : ∃ d, D[j]? = some d := ⟨_, List.getElem?_eq_getElem (by have := HL.out; omega)⟩
          obtain ⟨gl, o, rfl, hin, hcell⟩ := HAT.out j d hd
          obtain ⟨oo, hoo⟩ : ∃ oo, o + j * 9 = oo := ⟨_, rfl⟩
          rw [hoo] at hcell
          have y4 : wr.drew.cell? ⟨gl, oo + 4, none⟩ = some (.slice d.psd d.nsd d.dsd) := (HB.out.cell (lt_of_cell (hcell 4 _ rfl))).trans (hcell 4 _ rfl)
          have y3 : wr.drew.cell? ⟨gl, oo + 3, none⟩ = some (.slice d.psv d.nsv d.dsv) := (HB.out.cell (lt_of_cell (hcell 3 _ rfl))).trans (hcell 3 _ rfl)
          have hnd : d.nsd = d.sd.length := hin.h2.len.1
          have hnv : d.nsv = d.sv.length := hin.h1.len.1
          obtain ⟨a1, ha1⟩ : ∃ a1 : Nat, min d.nsd 65537 = a1 := ⟨_, rfl⟩
          obtain ⟨a2, ha2⟩ : ∃ a2 : Nat, min d.nsv 65536 = a2 := ⟨_, rfl⟩
          have m1 : min (d.nsd : Int) 65537 = (a1 : Int) := by omega
          have m2 : min (d.nsv : Int) 65536 = (a2 : Int) := by omega
          obtain ⟨s2, hs2⟩ : ∃ s2 : Nat, sm + (a1 + a2) = s2 := ⟨_, rfl⟩
          obtain ⟨s1, hs1⟩ : ∃ s1 : Nat, a1 + a2 = s1 := ⟨_, rfl⟩
          have m3 : IntKind.i64.wrap ((a1 : Int) + (a2 : Int)) = (s1 : Int) := by rw [IntKind.wrap_i64]; omega
          have m4 : IntKind.i64.wrap ((sm : Int) + (s1 : Int)) = (s2 : Int) := by rw [IntKind.wrap_i64]; omega
          have HSM2 := hide (show (s2 : Nat) = smN (D.take (j + 1)) by rw [smN_succ hd, HSM.out, ← hnd, ← hnv]; omega)
          clear hin hcell hnd hnv ha1 ha2 hs1 hs2
          go_wp2_with fail
          refine wp_region_held_drew (S := fun W => W.cell? ⟨gl, oo + 4, none⟩ = some (.slice d.psd d.nsd d.dsd) ∧ W.cell? ⟨gl, oo + 3, none⟩ = some (.slice d.psv d.nsv d.dsv)) (by kernel_rfl) ?_ (fun hHeld => ?_)
          · (try dsimp only)
            exact ⟨y4, y3⟩
          refine wpAnyH_take (i := 0) (oi := { dst := some 19, op := Op.move (Operand.tmp 3), type := 3, pos := "law.go:42", after := #[], guard := none }) (v := ?_) rfl (by kernel_rfl) (by kernel_rfl) (by kernel_rfl) (fun _ _ _ h => h) (Or.inl ⟨by rfl, ?_⟩) (by assumption) ?_
          rotate_left
          · intro w hSw
            (try dsimp only at hSw)
            go_simp
            try with_reducible rfl
          try simp only [Act.put, List.setIfInBounds_toArray, List.set_cons_zero, List.set_cons_succ]
          refine wpAnyH_take (i := 1) (oi := { dst := some 20, op := Op.move (Operand.tmp 0), type := 22, pos := "law.go:42", after := #[], guard := none }) (v := ?_) rfl (by kernel_rfl) (by kernel_rfl) (by kernel_rfl) (fun _ _ _ h => h) (Or.inl ⟨by rfl, ?_⟩) (by assumption) ?_
          rotate_left
          · intro w hSw
            (try dsimp only at hSw)
            go_simp
            try with_reducible rfl
          try simp only [Act.put, List.setIfInBounds_toArray, List.set_cons_zero, List.set_cons_succ]
          refine wpAnyH_take (i := 2) (oi := { dst := some 21, op := Op.move (Operand.tmp 4), type := 3, pos := "law.go:42", after := #[], guard := none }) (v := ?_) rfl (by kernel_rfl) (by kernel_rfl) (by kernel_rfl) (fun _ _ _ h => h) (Or.inl ⟨by rfl, ?_⟩) (by assumption) ?_
          rotate_left
          · intro w hSw
            (try dsimp only at hSw)
            go_simp
            try with_reducible rfl
          try simp only [Act.put, List.setIfInBounds_toArray, List.set_cons_zero, List.set_cons_succ]
          refine wpAnyH_take (i := 3) (oi := { dst := some 22, op := Op.indexAddr 22 (Operand.tmp 20) (Operand.tmp 21), type := 0, pos := "law.go:42", after := _, guard := none }) (v := ?_) rfl (by kernel_rfl) (by kernel_rfl) (by kernel_rfl) (fun _ _ _ h => h) (Or.inl ⟨by rfl, ?_⟩) (by assumption) ?_
          rotate_left
          · intro w hSw
            (try dsimp only at hSw)
            go_simp
            try with_reducible rfl
          try simp only [Act.put, List.setIfInBounds_toArray, List.set_cons_zero, List.set_cons_succ]
          refine wpAnyH_take (i := 4) (oi := { dst := some 23, op := Op.fieldAddr 44 (Operand.tmp 22) 1, type := 0, pos := "law.go:42", after := _, guard := none }) (v := ?_) rfl (by kernel_rfl) (by kernel_rfl) (by kernel_rfl) (fun _ _ _ h => h) (Or.inl ⟨by rfl, ?_⟩) (by assumption) ?_
          rotate_left
          · intro w hSw
            (try dsimp only at hSw)
            go_simp
            try with_reducible rfl
          try simp only [Act.put, List.setIfInBounds_toArray, List.set_cons_zero, List.set_cons_succ]
          refine wpAnyH_take (i := 5) (oi := { dst := some 24, op := Op.fieldAddr 42 (Operand.tmp 23) 3, type := 0, pos := "law.go:42", after := _, guard := none }) (v := ?_) rfl (by kernel_rfl) (by kernel_rfl) (by kernel_rfl) (fun _ _ _ h => h) (Or.inl ⟨by rfl, ?_⟩) (by assumption) ?_
          rotate_left
          · intro w hSw
            (try dsimp only at hSw)
            go_simp
            try with_reducible rfl
          try simp only [Act.put, List.setIfInBounds_toArray, List.set_cons_zero, List.set_cons_succ]
          refine wpAnyH_take (i := 6) (oi := { dst := some 25, op := Op.load 40 (Operand.tmp 24), type := 40, pos := "law.go:42", after := _, guard := none }) (v := ?_) rfl (by kernel_rfl) (by kernel_rfl) (by kernel_rfl) (fun _ _ _ h => h) (Or.inl ⟨by rfl, ?_⟩) (by assumption) ?_
          rotate_left
          · intro w hSw
            (try dsimp only at hSw)
            go_simp
            try with_reducible rfl
          try simp only [Act.put, List.setIfInBounds_toArray, List.set_cons_zero, List.set_cons_succ]
          refine wpAnyH_take (i := 7) (oi := { dst := some 26, op := Op.call { callee := Callee.builtin Builtin.len, args := #[Operand.tmp 25], argTypes := #[40] }, type := 3, pos := "law.go:42", after := _, guard := none }) (v := ?_) rfl (by kernel_rfl) (by kernel_rfl) (by kernel_rfl) (fun _ _ _ h => h) (Or.inl ⟨by rfl, ?_⟩) (by assumption) ?_
          rotate_left
          · intro w hSw
            (try dsimp only at hSw)
            go_simp
            try with_reducible rfl
          try simp only [Act.put, List.setIfInBounds_toArray, List.set_cons_zero, List.set_cons_succ]
          refine wpAnyH_take (i := 8) (oi := { dst := some 27, op := Op.call { callee := Callee.builtin Builtin.min, args := #[Operand.tmp 26, Operand.const (Value.int IntKind.i64 65537)], argTypes := #[3, 3] }, type := 3, pos := "law.go:42", after := _, guard := none }) (v := ?_) rfl (by kernel_rfl) (by kernel_rfl) (by kernel_rfl) (fun _ _ _ h => h) (Or.inl ⟨by rfl, ?_⟩) (by assumption) ?_
          rotate_left
          · intro w hSw
            (try dsimp only at hSw)
            go_simp
            try with_reducible rfl
          try simp only [Act.put, List.setIfInBounds_toArray, List.set_cons_zero, List.set_cons_succ]
          refine wpAnyH_take (i := 9) (oi := { dst := some 28, op := Op.move (Operand.tmp 0), type := 22, pos := "law.go:42", after := #[], guard := none }) (v := ?_) rfl (by kernel_rfl) (by kernel_rfl) (by kernel_rfl) (fun _ _ _ h => h) (Or.inl ⟨by rfl, ?_⟩) (by assumption) ?_
          rotate_left
          · intro w hSw
            (try dsimp only at hSw)
            go_simp
            try with_reducible rfl
          try simp only [Act.put, List.setIfInBounds_toArray, List.set_cons_zero, List.set_cons_succ]
          refine wpAnyH_take (i := 10) (oi := { dst := some 29, op := Op.move (Operand.tmp 4), type := 3, pos := "law.go:42", after := #[], guard := none }) (v := ?_) rfl (by kernel_rfl) (by kernel_rfl) (by kernel_rfl) (fun _ _ _ h => h) (Or.inl ⟨by rfl, ?_⟩) (by assumption) ?_
          rotate_left
          · intro w hSw
            (try dsimp only at hSw)
            go_simp
            try with_reducible rfl
          try simp only [Act.put, List.setIfInBounds_toArray, List.set_cons_zero, List.set_cons_succ]
          refine wpAnyH_take (i := 11) (oi := { dst := some 30, op := Op.indexAddr 22 (Operand.tmp 28) (Operand.tmp 29), type := 0, pos := "law.go:42", after := _, guard := none }) (v := ?_) rfl (by kernel_rfl) (by kernel_rfl) (by kernel_rfl) (fun _ _ _ h => h) (Or.inl ⟨by rfl, ?_⟩) (by assumption) ?_
          rotate_left
          · intro w hSw
            (try dsimp only at hSw)
            go_simp
            try with_reducible rfl
          try simp only [Act.put, List.setIfInBounds_toArray, List.set_cons_zero, List.set_cons_succ]
          refine wpAnyH_take (i := 12) (oi := { dst := some 31, op := Op.fieldAddr 44 (Operand.tmp 30) 1, type := 0, pos := "law.go:42", after := _, guard := none }) (v := ?_) rfl (by kernel_rfl) (by kernel_rfl) (by kernel_rfl) (fun _ _ _ h => h) (Or.inl ⟨by rfl, ?_⟩) (by assumption) ?_
          rotate_left
          · intro w hSw
            (try dsimp only at hSw)
            go_simp
            try with_reducible rfl
          try simp only [Act.put, List.setIfInBounds_toArray, List.set_cons_zero, List.set_cons_succ]
          refine wpAnyH_take (i := 13) (oi := { dst := some 32, op := Op.fieldAddr 42 (Operand.tmp 31) 2, type := 0, pos := "law.go:42", after := _, guard := none }) (v := ?_) rfl (by kernel_rfl) (by kernel_rfl) (by kernel_rfl) (fun _ _ _ h => h) (Or.inl ⟨by rfl, ?_⟩) (by assumption) ?_
          rotate_left
          · intro w hSw
            (try dsimp only at hSw)
            go_simp
            try with_reducible rfl
          try simp only [Act.put, List.setIfInBounds_toArray, List.set_cons_zero, List.set_cons_succ]
          refine wpAnyH_take (i := 14) (oi := { dst := some 33, op := Op.load 39 (Operand.tmp 32), type := 39, pos := "law.go:42", after := _, guard := none }) (v := ?_) rfl (by kernel_rfl) (by kernel_rfl) (by kernel_rfl) (fun _ _ _ h => h) (Or.inl ⟨by rfl, ?_⟩) (by assumption) ?_
          rotate_left
          · intro w hSw
            (try dsimp only at hSw)
            go_simp
            try with_reducible rfl
          try simp only [Act.put, List.setIfInBounds_toArray, List.set_cons_zero, List.set_cons_succ]
          refine wpAnyH_take (i := 15) (oi := { dst := some 34, op := Op.call { callee := Callee.builtin Builtin.len, args := #[Operand.tmp 33], argTypes := #[39] }, type := 3, pos := "law.go:42", after := _, guard := none }) (v := ?_) rfl (by kernel_rfl) (by kernel_rfl) (by kernel_rfl) (fun _ _ _ h => h) (Or.inl ⟨by rfl, ?_⟩) (by assumption) ?_
          rotate_left
          · intro w hSw
            (try dsimp only at hSw)
            go_simp
            try with_reducible rfl
          try simp only [Act.put, List.setIfInBounds_toArray, List.set_cons_zero, List.set_cons_succ]
          refine wpAnyH_take (i := 16) (oi := { dst := some 35, op := Op.call { callee := Callee.builtin Builtin.min, args := #[Operand.tmp 34, Operand.const (Value.int IntKind.i64 65536)], argTypes := #[3, 3] }, type := 3, pos := "law.go:42", after := _, guard := none }) (v := ?_) rfl (by kernel_rfl) (by kernel_rfl) (by kernel_rfl) (fun _ _ _ h => h) (Or.inl ⟨by rfl, ?_⟩) (by assumption) ?_
          rotate_left
          · intro w hSw
            (try dsimp only at hSw)
            go_simp
            try with_reducible rfl
          try simp only [Act.put, List.setIfInBounds_toArray, List.set_cons_zero, List.set_cons_succ]
          refine wpAnyH_take (i := 17) (oi := { dst := some 36, op := Op.binOp BinOp.add 3 (Operand.tmp 27) (Operand.tmp 35) 3, type := 3, pos := "law.go:42", after := _, guard := none }) (v := ?_) rfl (by kernel_rfl) (by kernel_rfl) (by kernel_rfl) (fun _ _ _ h => h) (Or.inl ⟨by rfl, ?_⟩) (by assumption) ?_
          rotate_left
          · intro w hSw
            (try dsimp only at hSw)
            go_simp
            try with_reducible rfl
          try simp only [Act.put, List.setIfInBounds_toArray, List.set_cons_zero, List.set_cons_succ]
          refine wpAnyH_take (i := 18) (oi := { dst := some 37, op := Op.binOp BinOp.add 3 (Operand.tmp 19) (Operand.tmp 36) 3, type := 3, pos := "law.go:42", after := _, guard := none }) (v := ?_) rfl (by kernel_rfl) (by kernel_rfl) (by kernel_rfl) (fun _ _ _ h => h) (Or.inl ⟨by rfl, ?_⟩) (by assumption) ?_
          rotate_left
          · intro w hSw
            (try dsimp only at hSw)
            go_simp
            try with_reducible rfl
          try simp only [Act.put, List.setIfInBounds_toArray, List.set_cons_zero, List.set_cons_succ]
          refine wpAnyH_take (i := 19) (oi := { dst := some 3, op := Op.assign (Operand.tmp 37), type := 3, pos := "law.go:42", after := _, guard := none }) (v := ?_) rfl (by kernel_rfl) (by kernel_rfl) (by kernel_rfl) (fun _ _ _ h => h) (Or.inl ⟨by rfl, ?_⟩) (by assumption) ?_
          rotate_left
          · intro w hSw
            (try dsimp only at hSw)
            go_simp
            try with_reducible rfl
          try simp only [Act.put, List.setIfInBounds_toArray, List.set_cons_zero, List.set_cons_succ]
          refine wpAnyH_done (by kernel_rfl) ?_ _
          obtain ⟨w7, h7⟩ : ∃ w7, wr.drew = w7 := ⟨_, rfl⟩
          rw [h7]
          have hb7 : Below w.heap.size w w7 := h7 ▸ (HB.out.trans ((below_drewN (Below.refl wr.heap.size wr) 1).mono HB.out.size))
          have HB7 := hide hb7
          clear hb7 h7
          go_wp2_with fail
          go_roundw
          case rel => exact ⟨j + 1, by omega, by omega, by rw [← HSM2.out], by go_num, HB7.out⟩
          case measure => simp [intOf]; omega
        · have hs3 : ¬ sm ≤ 65536 := by omega
          by_cases hl4 : (len : Int) ≤ 40
          · go_wp2
            go_ret
            exact ⟨_, rfl, HB.out, fun h => by first | (simp at h; done) | (simp at h; omega)⟩
          · go_wp2
            go_ret
            exact ⟨_, rfl, HB.out, fun h => by first | (simp at h; done) | (simp at h; omega)⟩
      · have hl4 : ¬ (len : Int) ≤ 40 := by omega
        go_wp2
        go_ret
        exact ⟨_, rfl, HB.out, fun h => by first | (simp at h; done) | (simp at h; omega)⟩
    · have HJ := hide (show j = len by omega)
      have HE := hide (show smN D = sm by rw [← HSM.out, HJ.out, ← HL.out, List.take_length])
      have h1 := HL.out
      have h2 := HE.out
      have H1 := hide h1
      have H2 := hide h2
      clear h1 h2
      by_cases hl4 : (len : Int) ≤ 40
      · go_wp2
        go_ret
        exact ⟨_, rfl, HB.out, fun h => by
          simp at h
          exact ⟨by have := H1.out; omega, daN_le D (by have := H2.out; omega)⟩⟩
      · go_wp2
        go_ret
        exact ⟨_, rfl, HB.out, fun h => by first | (simp at h; done) | (simp at h; omega)⟩
end Go.Proofs.YtgbdjcekpdfpjaaGreatDoor
