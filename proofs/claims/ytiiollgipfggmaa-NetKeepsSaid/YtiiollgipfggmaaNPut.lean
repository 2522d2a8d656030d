/- A message is put into a bag. -/
import Derived.Test.YtiiollgipfggmaaNBag
namespace Go.Proofs.Ytiiollgipfggmaa
set_option linter.unusedVariables false
set_option linter.unusedSimpArgs false
open Go.RowKit

theorem BgIs.put {B : Nat} {w w1 w2 : World} {g : Nat} {v v' : Value} {x : Bg} {m : Ms} {E : List Pc} {p : Option Addr} {n c : Nat} (h : BgIs B w g v x) (hm : MIn m) (hfull : x.ps.length < 256) (hlast : x.last < 1000000)
    (hE : OwnP B w v E) (hD : PcD B w g v E x.ps) (hu : Own B w (.slice p n c) (payL m)) (hf : ∀ j, (Value.slice p n c).ownBlock = some j → j ≠ g ∧ v.ownBlock ≠ some j)
    (h1 : w1 = w.setCell ⟨g, 1, none⟩ (.int .i64 (x.last + 1))) (hg : w1.grownBy w2 v.ownBlock) (ho : OwnP B w2 v' (E ++ [⟨x.last + 1, p, n, c⟩])) (hv : v'.ownBlock = v.ownBlock ∨ v'.ownBlock = some (w1.heap.size + 1)) (hB : B ≤ w.heap.size) :
    BgIs B (w2.setCell ⟨g, 2, none⟩ v') g v' ⟨x.last + 1, x.ps ++ [(x.last + 1, m)]⟩ ∧ Chg w (w2.setCell ⟨g, 2, none⟩ v') (BgS g v) ∧ ∀ k, BgS g v' k → BgS g v k ∨ w.heap.size ≤ k := by
  have hgl := h.gl
  have hz1 : w1.heap.size = w.heap.size := by rw [h1]; simp [World.setCell]
  have hvg := h.vg
  have hc1 : Chg w w1 (BgS g v) := by rw [h1]; exact (Chg.refl _ _).set _ (.inl (.inl rfl))
  have hc2 : Chg w w2 (BgS g v) := hc1.trans (Chg.of_grown hg (fun k => v.ownBlock = some k) (fun k e => .inl e)) (fun k e => .inl (.inr e))
  have hc3 : Chg w (w2.setCell ⟨g, 2, none⟩ v') (BgS g v) := hc2.set _ (.inl (.inl rfl))
  have hg1 : w1.heap[g]? = w2.heap[g]? := (hg.block g (by omega) (fun e => hvg e.symm)).symm
  have c0 : w2.cell? ⟨g, 0, none⟩ = some (.bool true) := (World.cell?_of_block (w := w1) (w' := w2) (a := ⟨g, 0, none⟩) hg1.symm).trans (by rw [h1, World.cell?_setCell_other _ _ _ _ (by intro e; injection e with _ e; omega)]; exact h.c0)
  have c1 : w2.cell? ⟨g, 1, none⟩ = some (.int .i64 (x.last + 1)) := (World.cell?_of_block (w := w1) (w' := w2) (a := ⟨g, 1, none⟩) hg1.symm).trans (by rw [h1]; exact World.cell?_setCell_same _ _ _ h.c1)
  have c2 : w2.cell? ⟨g, 2, none⟩ = some v := (World.cell?_of_block (w := w1) (w' := w2) (a := ⟨g, 2, none⟩) hg1.symm).trans (by rw [h1, World.cell?_setCell_other _ _ _ _ (by intro e; injection e with _ e; omega)]; exact h.c2)
  have hfr : ∀ i, w2.frozen? ⟨g, i, none⟩ = false := fun i => (World.frozen?_of_block (w := w1) (w' := w2) (a := ⟨g, i, none⟩) hg1.symm).trans (by rw [h1, World.frozen?_setCell]; exact h.fr i)
  have hv'g : v'.ownBlock ≠ some g := by
    rcases hv with e | e
    · rw [e]; exact hvg
    · rw [e]; intro e2; injection e2 with e2; omega
  have keep : ∀ (p : Option Addr) (n c : Nat) (l : List UInt8), 0 < l.length → Own B w (.slice p n c) l → (∀ j, (Value.slice p n c).ownBlock = some j → j ≠ g ∧ v.ownBlock ≠ some j) → Own B (w2.setCell ⟨g, 2, none⟩ v') (.slice p n c) l ∧ ∀ j, (Value.slice p n c).ownBlock = some j → j ≠ g ∧ v'.ownBlock ≠ some j := fun p n c l hl ho hf => by
    refine ⟨ho.off hf hc3, fun j hj => ⟨(hf j hj).1, ?_⟩⟩
    rcases hv with e | e
    · rw [e]; exact (hf j hj).2
    · rw [e]
      intro e2
      injection e2 with e2
      have := ho.lt' hl j hj
      omega
  have hok := h.ok
  refine ⟨⟨h.hB, ?_, ?_, ?_, fun i => ?_, ⟨E ++ [⟨x.last + 1, p, n, c⟩], ?_, ?_⟩, hv'g, ?_⟩, hc3, ?_⟩
  rotate_right
  · rintro k (rfl | hk)
    · exact .inl (.inl rfl)
    · rcases hv with e | e
      · exact .inl (.inr (by rw [← e]; exact hk))
      · rw [e] at hk
        injection hk with hk
        exact .inr (by omega)
  · rw [World.cell?_setCell_other _ _ _ _ (by intro e; injection e with _ e; omega)]
    exact c0
  · rw [World.cell?_setCell_other _ _ _ _ (by intro e; injection e with _ e; omega)]
    exact c1
  · exact World.cell?_setCell_same _ _ _ c2
  · rw [World.frozen?_setCell]
    exact hfr i
  · exact ho.grown (grown_set _ _ _ _) (.inr hv'g)
  · refine ⟨by rw [List.length_append, List.length_append, hD.1]; rfl, fun k e y h1 h2 => ?_⟩
    by_cases hk : k < E.length
    · rw [List.getElem?_append_left hk] at h1
      rw [List.getElem?_append_left (by rw [← hD.1]; exact hk)] at h2
      obtain ⟨a, b, cc⟩ := hD.2 k e y h1 h2
      obtain ⟨b', c'⟩ := keep _ _ _ _ (payL_pos _) b cc
      exact ⟨a, b', c'⟩
    · rw [List.getElem?_append_right (by omega)] at h1
      rw [List.getElem?_append_right (by rw [← hD.1]; omega)] at h2
      have h0 : k - E.length = 0 := by
        have := (List.getElem?_eq_some_iff.1 h1).1
        simp at this
        omega
      rw [h0] at h1
      rw [← hD.1, h0] at h2
      simp at h1 h2
      subst h1 h2
      obtain ⟨b', c'⟩ := keep _ _ _ _ (payL_pos _) hu hf
      exact ⟨rfl, b', c'⟩
  · refine ⟨fun y hy => ?_, by simp; omega, by have := hok.l0; dsimp only; omega, by dsimp only; omega, fun y hy => ?_⟩
    · rcases List.mem_append.1 hy with hy | hy
      · exact hok.inn y hy
      · simp at hy; subst hy; exact hm
    · rcases List.mem_append.1 hy with hy | hy
      · have := hok.ids y hy; dsimp only; omega
      · simp at hy; subst hy; have := hok.l0; dsimp only; omega

set_option maxRecDepth 200000 in
set_option maxHeartbeats 4000000 in
theorem put_bag {B : Nat} {w : World} {g : Nat} {v : Value} {x : Bg} {m : Ms} {p : Option Addr} {n c : Nat} (h : BgIs B w g v x) (hm : MIn m) (hfull : x.ps.length < 256) (hlast : x.last < 1000000)
    (hu : Own B w (.slice p n c) (payL m)) (hf : ∀ j, (Value.slice p n c).ownBlock = some j → j ≠ g ∧ v.ownBlock ≠ some j) (hB : B ≤ w.heap.size) :
    Calls Try.prog 61 #[.pointer (some ⟨g, 0, none⟩), .slice p n c] w fun e w' => e = .returned (.tuple #[]) ∧ ∃ v', BgIs B w' g v' ⟨x.last + 1, x.ps ++ [(x.last + 1, m)]⟩ ∧ Chg w w' (BgS g v) ∧ ∀ k, BgS g v' k → BgS g v k ∨ w.heap.size ≤ k := by
  obtain ⟨E, hE, hD⟩ := h.row
  obtain ⟨pv, cv, rfl, _⟩ := hE.sl
  obtain ⟨w1, hw1⟩ : ∃ w1, w.setCell ⟨g, 1, none⟩ (.int .i64 (x.last + 1)) = w1 := ⟨_, rfl⟩
  have HP := hide (fun w2 v' hg ho hv => BgIs.put (w1 := w1) (w2 := w2) (v' := v') (E := E) h hm hfull hlast hE hD hu hf hw1.symm hg ho hv hB)
  have c1 := h.c1
  have f1 := h.fr 1
  have hvg := h.vg
  have hE1 : OwnP B w1 (.slice pv E.length cv) E := by rw [← hw1]; exact hE.grown (grown_set _ _ _ _) (.inr hvg)
  have hB1 : B ≤ w1.heap.size := by rw [← hw1]; simpa [World.setCell] using hB
  have hEL : E.length ≤ 1000000 := by rw [hD.1]; omega
  have k1 : w1.cell? ⟨g, 1, none⟩ = some (.int .i64 (x.last + 1)) := by rw [← hw1]; exact World.cell?_setCell_same _ _ _ c1
  have k2 : w1.cell? ⟨g, 2, none⟩ = some (.slice pv E.length cv) := by rw [← hw1, World.cell?_setCell_other _ _ _ _ (by intro e; injection e with _ e; omega)]; exact h.c2
  have k2f : w1.frozen? ⟨g, 2, none⟩ = false := by rw [← hw1, World.frozen?_setCell]; exact h.fr 2
  have hgl1 : g < w1.heap.size := lt_of_cell k1
  have hwrap : IntKind.i64.wrap (x.last + 1) = x.last + 1 := by have := h.ok.l0; rw [IntKind.wrap_i64]; omega
  obtain ⟨z, hz⟩ : ∃ z, x.last + 1 = z := ⟨_, rfl⟩
  rw [hz] at HP k1 hwrap hw1 ⊢
  have hxl : x.last + 1 = z := hz
  have HE1 := hide (And.intro hE1 (And.intro hB1 (And.intro hEL hvg)))
  have HGL := hide hgl1
  have HEL := hide hEL
  have HK2 := hide (And.intro k2 k2f)
  have HK1 := hide k1
  obtain ⟨EL, hel⟩ : ∃ n, E.length = n := ⟨_, rfl⟩
  rw [hel] at HP HE1 HK2 k2 ⊢
  have hl0 := h.ok.l0
  have hl9 : x.last ≤ 1000000 := h.ok.l1
  obtain ⟨la, hla⟩ : ∃ a, x.last = a := ⟨_, rfl⟩
  rw [hla] at c1 hxl hl0 hl9
  clear h hE hD hu hf hB hE1 hB1 hEL hvg k1 k2f hgl1 hwrap hz hel hm hfull hlast hla
  go_enter Try.func61, Try.ntmps61
  go_wp2_with fail
  refine wp_region_held_drew (S := fun V => V.cell? ⟨g, 1, none⟩ = some (.int .i64 z)) (by kernel_rfl) ?_ (fun hHeld => ?_)
  · (try dsimp only)
    first | exact HK1.out | go_keep
  refine wpAnyH_take (i := 0) (oi := { dst := some 11, op := Op.move (Operand.tmp 0), type := 46, pos := "net.go:101", after := #[], guard := none }) (v := ?_) rfl (by kernel_rfl) (by kernel_rfl) (by kernel_rfl) (fun _ _ _ h => h) (Or.inl ⟨by rfl, ?_⟩) (by assumption) ?_
  rotate_left
  · intro w hSw
    (try dsimp only at hSw)
    go_simp
    try with_reducible rfl
  try simp only [Act.put, List.setIfInBounds_toArray, List.set_cons_zero, List.set_cons_succ]
  refine wpAnyH_take (i := 1) (oi := { dst := some 12, op := Op.move (Operand.tmp 0), type := 46, pos := "net.go:101", after := #[], guard := none }) (v := ?_) rfl (by kernel_rfl) (by kernel_rfl) (by kernel_rfl) (fun _ _ _ h => h) (Or.inl ⟨by rfl, ?_⟩) (by assumption) ?_
  rotate_left
  · intro w hSw
    (try dsimp only at hSw)
    go_simp
    try with_reducible rfl
  try simp only [Act.put, List.setIfInBounds_toArray, List.set_cons_zero, List.set_cons_succ]
  refine wpAnyH_take (i := 2) (oi := { dst := some 13, op := Op.nilCheck (Operand.tmp 12), type := 0, pos := "net.go:101", after := _, guard := none }) (v := ?_) rfl (by kernel_rfl) (by kernel_rfl) (by kernel_rfl) (fun _ _ _ h => h) (Or.inl ⟨by rfl, ?_⟩) (by assumption) ?_
  rotate_left
  · intro w hSw
    (try dsimp only at hSw)
    go_simp
    try with_reducible rfl
  try simp only [Act.put, List.setIfInBounds_toArray, List.set_cons_zero, List.set_cons_succ]
  refine wpAnyH_take (i := 3) (oi := { dst := some 14, op := Op.fieldAddr 66 (Operand.tmp 13) 2, type := 0, pos := "net.go:101", after := _, guard := none }) (v := ?_) rfl (by kernel_rfl) (by kernel_rfl) (by kernel_rfl) (fun _ _ _ h => h) (Or.inl ⟨by rfl, ?_⟩) (by assumption) ?_
  rotate_left
  · intro w hSw
    (try dsimp only at hSw)
    go_simp
    try with_reducible rfl
  try simp only [Act.put, List.setIfInBounds_toArray, List.set_cons_zero, List.set_cons_succ]
  refine wpAnyH_take (i := 5) (oi := { dst := some 16, op := Op.move (Operand.tmp 0), type := 46, pos := "net.go:101", after := #[], guard := none }) (v := ?_) rfl (by kernel_rfl) (by kernel_rfl) (by kernel_rfl) (fun _ _ _ h => h) (Or.inl ⟨by rfl, ?_⟩) (by assumption) ?_
  rotate_left
  · intro w hSw
    (try dsimp only at hSw)
    go_simp
    try with_reducible rfl
  try simp only [Act.put, List.setIfInBounds_toArray, List.set_cons_zero, List.set_cons_succ]
  refine wpAnyH_take (i := 6) (oi := { dst := some 17, op := Op.nilCheck (Operand.tmp 16), type := 0, pos := "net.go:101", after := _, guard := none }) (v := ?_) rfl (by kernel_rfl) (by kernel_rfl) (by kernel_rfl) (fun _ _ _ h => h) (Or.inl ⟨by rfl, ?_⟩) (by assumption) ?_
  rotate_left
  · intro w hSw
    (try dsimp only at hSw)
    go_simp
    try with_reducible rfl
  try simp only [Act.put, List.setIfInBounds_toArray, List.set_cons_zero, List.set_cons_succ]
  refine wpAnyH_take (i := 7) (oi := { dst := some 18, op := Op.fieldAddr 66 (Operand.tmp 17) 1, type := 0, pos := "net.go:101", after := _, guard := none }) (v := ?_) rfl (by kernel_rfl) (by kernel_rfl) (by kernel_rfl) (fun _ _ _ h => h) (Or.inl ⟨by rfl, ?_⟩) (by assumption) ?_
  rotate_left
  · intro w hSw
    (try dsimp only at hSw)
    go_simp
    try with_reducible rfl
  try simp only [Act.put, List.setIfInBounds_toArray, List.set_cons_zero, List.set_cons_succ]
  refine wpAnyH_take (i := 8) (oi := { dst := some 19, op := Op.load 3 (Operand.tmp 18), type := 3, pos := "net.go:101", after := _, guard := none }) (v := ?_) rfl (by kernel_rfl) (by kernel_rfl) (by kernel_rfl) (fun _ _ _ h => h) (Or.inl ⟨by rfl, ?_⟩) (by assumption) ?_
  rotate_left
  · intro w hSw
    (try dsimp only at hSw)
    go_simp
    try with_reducible rfl
  try simp only [Act.put, List.setIfInBounds_toArray, List.set_cons_zero, List.set_cons_succ]
  refine wpAnyH_take (i := 9) (oi := { dst := some 20, op := Op.move (Operand.tmp 1), type := 24, pos := "net.go:101", after := #[], guard := none }) (v := ?_) rfl (by kernel_rfl) (by kernel_rfl) (by kernel_rfl) (fun _ _ _ h => h) (Or.inl ⟨by rfl, ?_⟩) (by assumption) ?_
  rotate_left
  · intro w hSw
    (try dsimp only at hSw)
    go_simp
    try with_reducible rfl
  try simp only [Act.put, List.setIfInBounds_toArray, List.set_cons_zero, List.set_cons_succ]
  refine wpAnyH_take (i := 10) (oi := { dst := some 21, op := Op.build 91 #[(0, Operand.tmp 19), (1, Operand.tmp 20)], type := 91, pos := "net.go:101", after := _, guard := none }) (v := ?_) rfl (by kernel_rfl) (by kernel_rfl) (by kernel_rfl) (fun _ _ _ h => h) (Or.inl ⟨by rfl, ?_⟩) (by assumption) ?_
  rotate_left
  · intro w hSw
    (try dsimp only at hSw)
    go_simp
    try with_reducible rfl
  try simp only [Act.put, List.setIfInBounds_toArray, List.set_cons_zero, List.set_cons_succ]
  refine wpAnyH_ready (rs := [4, 11]) (by kernel_rfl) (by simp) ?_
  refine AllReadyH.cons (o := { dst := some 15, op := Op.load 64 (Operand.tmp 14), type := 64, pos := "net.go:101", after := _, guard := none }) rfl (fun K hK => ?_) ?_
  · go_simp
    first
      | refine hK.out _ _ ?_ (fun hHeld => ?_)
      | (go_wp2_with fail; refine hK.out _ _ ?_ (fun hHeld => ?_))
    · (try dsimp only)
      first | assumption | exact HK1.out | exact Lib.cell?_alloc_some _ HK1.out | exact m1 | exact s1 | go_keep
    clear hK K
    try simp only [Act.put, List.setIfInBounds_toArray, List.set_cons_zero, List.set_cons_succ]
    refine wpAnyH_ready (rs := [11]) (by kernel_rfl) (by simp) ?_
    refine AllReadyH.cons (o := { dst := some 22, op := Op.buildSlice 64 1 #[(0, Operand.tmp 21)], type := 64, pos := "net.go:101", after := _, guard := none }) rfl (fun K hK => ?_) ?_
    · have z2 : (w1.alloc (.cells #[.int .i64 z, .slice p n c] 91)).drew.cell? ⟨g, 2, none⟩ = some (.slice pv EL cv) := Lib.cell?_alloc_some _ HK2.out.1
      go_simp
      first
        | refine hK.out _ _ ?_ (fun hHeld => ?_)
        | (go_wp2_with fail; refine hK.out _ _ ?_ (fun hHeld => ?_))
      · (try dsimp only)
        first | assumption | exact HK1.out | exact Lib.cell?_alloc_some _ HK1.out | exact m1 | exact s1 | go_keep
      clear hK K
      try simp only [Act.put, List.setIfInBounds_toArray, List.set_cons_zero, List.set_cons_succ]
      refine wpAnyH_ready (rs := [12]) (by kernel_rfl) (by simp) ?_
      refine AllReadyH.cons (o := { dst := some 23, op := Op.call { callee := Callee.builtin Builtin.append, args := #[Operand.tmp 15, Operand.tmp 22], argTypes := #[64, 64] }, type := 64, pos := "net.go:101", after := _, guard := none }) rfl (fun K hK => ?_) ?_
      · refine step_pushP1 (by rfl) _ _ (by rfl) (by rfl) ⟨z, p, n, c⟩ (by rfl) (by rfl) (by rfl) (World.ownsRow.drew HE1.out.1) HE1.out.2.1 HEL.out ?_
        intro v9 w9 ho9 hg9 hv9
        obtain ⟨p9, c9, rfl, _⟩ := ho9.sl
        have hgg : w1.grownBy w9 (Value.slice pv EL cv).ownBlock := ⟨hg9.os, hg9.tape, hg9.output, hg9.size, hg9.block⟩
        have HPP := hide (HP.out w9 _ hgg ho9 hv9)
        have m2 : w9.cell? ⟨g, 2, none⟩ = some (.slice pv EL cv) := hgg.cell HK2.out.1 (fun e => HE1.out.2.2.2 e.symm)
        have m1 : w9.cell? ⟨g, 1, none⟩ = some (.int .i64 z) := hgg.cell HK1.out (fun e => HE1.out.2.2.2 e.symm)
        have mf2 : w9.frozen? ⟨g, 2, none⟩ = false := by
          have hb := hgg.block g HGL.out (fun e => HE1.out.2.2.2 e.symm)
          have := HK2.out.2
          unfold World.frozen? at this ⊢
          simp only [hb]
          exact this
        obtain ⟨l9, hl9'⟩ : ∃ q, (E ++ [(⟨z, p, n, c⟩ : Pc)]).length = q := ⟨_, rfl⟩
        rw [hl9'] at HPP ⊢
        have s1 : (w9.setCell ⟨g, 2, none⟩ (.slice p9 l9 c9)).cell? ⟨g, 1, none⟩ = some (.int .i64 z) := by
          rw [World.cell?_setCell_other _ _ _ _ (by intro e; injection e with _ e; omega)]
          exact m1
        clear ho9 hg9 hv9 hgg hl9'
        first
          | refine hK.out _ _ ?_ (fun hHeld => ?_)
          | (go_wp2_with fail; refine hK.out _ _ ?_ (fun hHeld => ?_))
        · (try dsimp only)
          first | assumption | exact HK1.out | exact Lib.cell?_alloc_some _ HK1.out | exact m1 | exact s1 | go_keep
        clear hK K
        try simp only [Act.put, List.setIfInBounds_toArray, List.set_cons_zero, List.set_cons_succ]
        refine wpAnyH_take (i := 13) (oi := { dst := some 24, op := Op.nilCheck (Operand.tmp 11), type := 0, pos := "net.go:101", after := _, guard := none }) (v := ?_) rfl (by kernel_rfl) (by kernel_rfl) (by kernel_rfl) (fun _ _ _ h => h) (Or.inl ⟨by rfl, ?_⟩) (by assumption) ?_
        rotate_left
        · intro w hSw
          (try dsimp only at hSw)
          go_simp
          try with_reducible rfl
        try simp only [Act.put, List.setIfInBounds_toArray, List.set_cons_zero, List.set_cons_succ]
        refine wpAnyH_take (i := 14) (oi := { dst := some 25, op := Op.fieldAddr 66 (Operand.tmp 24) 2, type := 0, pos := "net.go:101", after := _, guard := none }) (v := ?_) rfl (by kernel_rfl) (by kernel_rfl) (by kernel_rfl) (fun _ _ _ h => h) (Or.inl ⟨by rfl, ?_⟩) (by assumption) ?_
        rotate_left
        · intro w hSw
          (try dsimp only at hSw)
          go_simp
          try with_reducible rfl
        try simp only [Act.put, List.setIfInBounds_toArray, List.set_cons_zero, List.set_cons_succ]
        refine wpAnyH_ready (rs := [15]) (by kernel_rfl) (by simp) ?_
        refine AllReadyH.cons (o := { dst := none, op := Op.store 64 (Operand.tmp 25) (Operand.tmp 23), type := 0, pos := "net.go:101", after := _, guard := none }) rfl (fun K hK => ?_) ?_
        · go_simp
          first
            | refine hK.out _ _ ?_ (fun hHeld => ?_)
            | (go_wp2_with fail; refine hK.out _ _ ?_ (fun hHeld => ?_))
          · (try dsimp only)
            first | assumption | exact HK1.out | exact Lib.cell?_alloc_some _ HK1.out | exact m1 | exact s1 | go_keep
          clear hK K
          try simp only [Act.put, List.setIfInBounds_toArray, List.set_cons_zero, List.set_cons_succ]
          refine wpAnyH_done (by kernel_rfl) ?_ _
          go_wp2
          go_end0
          exact ⟨rfl, _, HPP.out⟩
        exact AllReadyH.nil
      exact AllReadyH.nil
    exact AllReadyH.nil
  refine AllReadyH.cons (o := { dst := some 22, op := Op.buildSlice 64 1 #[(0, Operand.tmp 21)], type := 64, pos := "net.go:101", after := _, guard := none }) rfl (fun K hK => ?_) ?_
  · have z2 : (w1.alloc (.cells #[.int .i64 z, .slice p n c] 91)).drew.cell? ⟨g, 2, none⟩ = some (.slice pv EL cv) := Lib.cell?_alloc_some _ HK2.out.1
    go_simp
    first
      | refine hK.out _ _ ?_ (fun hHeld => ?_)
      | (go_wp2_with fail; refine hK.out _ _ ?_ (fun hHeld => ?_))
    · (try dsimp only)
      first | assumption | exact HK1.out | exact Lib.cell?_alloc_some _ HK1.out | exact m1 | exact s1 | go_keep
    clear hK K
    try simp only [Act.put, List.setIfInBounds_toArray, List.set_cons_zero, List.set_cons_succ]
    refine wpAnyH_ready (rs := [4]) (by kernel_rfl) (by simp) ?_
    refine AllReadyH.cons (o := { dst := some 15, op := Op.load 64 (Operand.tmp 14), type := 64, pos := "net.go:101", after := _, guard := none }) rfl (fun K hK => ?_) ?_
    · go_simp
      first
        | refine hK.out _ _ ?_ (fun hHeld => ?_)
        | (go_wp2_with fail; refine hK.out _ _ ?_ (fun hHeld => ?_))
      · (try dsimp only)
        first | assumption | exact HK1.out | exact Lib.cell?_alloc_some _ HK1.out | exact m1 | exact s1 | go_keep
      clear hK K
      try simp only [Act.put, List.setIfInBounds_toArray, List.set_cons_zero, List.set_cons_succ]
      refine wpAnyH_ready (rs := [12]) (by kernel_rfl) (by simp) ?_
      refine AllReadyH.cons (o := { dst := some 23, op := Op.call { callee := Callee.builtin Builtin.append, args := #[Operand.tmp 15, Operand.tmp 22], argTypes := #[64, 64] }, type := 64, pos := "net.go:101", after := _, guard := none }) rfl (fun K hK => ?_) ?_
      · refine step_pushP1 (by rfl) _ _ (by rfl) (by rfl) ⟨z, p, n, c⟩ (by rfl) (by rfl) (by rfl) (World.ownsRow.drew HE1.out.1) HE1.out.2.1 HEL.out ?_
        intro v9 w9 ho9 hg9 hv9
        obtain ⟨p9, c9, rfl, _⟩ := ho9.sl
        have hgg : w1.grownBy w9 (Value.slice pv EL cv).ownBlock := ⟨hg9.os, hg9.tape, hg9.output, hg9.size, hg9.block⟩
        have HPP := hide (HP.out w9 _ hgg ho9 hv9)
        have m2 : w9.cell? ⟨g, 2, none⟩ = some (.slice pv EL cv) := hgg.cell HK2.out.1 (fun e => HE1.out.2.2.2 e.symm)
        have m1 : w9.cell? ⟨g, 1, none⟩ = some (.int .i64 z) := hgg.cell HK1.out (fun e => HE1.out.2.2.2 e.symm)
        have mf2 : w9.frozen? ⟨g, 2, none⟩ = false := by
          have hb := hgg.block g HGL.out (fun e => HE1.out.2.2.2 e.symm)
          have := HK2.out.2
          unfold World.frozen? at this ⊢
          simp only [hb]
          exact this
        obtain ⟨l9, hl9'⟩ : ∃ q, (E ++ [(⟨z, p, n, c⟩ : Pc)]).length = q := ⟨_, rfl⟩
        rw [hl9'] at HPP ⊢
        have s1 : (w9.setCell ⟨g, 2, none⟩ (.slice p9 l9 c9)).cell? ⟨g, 1, none⟩ = some (.int .i64 z) := by
          rw [World.cell?_setCell_other _ _ _ _ (by intro e; injection e with _ e; omega)]
          exact m1
        clear ho9 hg9 hv9 hgg hl9'
        first
          | refine hK.out _ _ ?_ (fun hHeld => ?_)
          | (go_wp2_with fail; refine hK.out _ _ ?_ (fun hHeld => ?_))
        · (try dsimp only)
          first | assumption | exact HK1.out | exact Lib.cell?_alloc_some _ HK1.out | exact m1 | exact s1 | go_keep
        clear hK K
        try simp only [Act.put, List.setIfInBounds_toArray, List.set_cons_zero, List.set_cons_succ]
        refine wpAnyH_take (i := 13) (oi := { dst := some 24, op := Op.nilCheck (Operand.tmp 11), type := 0, pos := "net.go:101", after := _, guard := none }) (v := ?_) rfl (by kernel_rfl) (by kernel_rfl) (by kernel_rfl) (fun _ _ _ h => h) (Or.inl ⟨by rfl, ?_⟩) (by assumption) ?_
        rotate_left
        · intro w hSw
          (try dsimp only at hSw)
          go_simp
          try with_reducible rfl
        try simp only [Act.put, List.setIfInBounds_toArray, List.set_cons_zero, List.set_cons_succ]
        refine wpAnyH_take (i := 14) (oi := { dst := some 25, op := Op.fieldAddr 66 (Operand.tmp 24) 2, type := 0, pos := "net.go:101", after := _, guard := none }) (v := ?_) rfl (by kernel_rfl) (by kernel_rfl) (by kernel_rfl) (fun _ _ _ h => h) (Or.inl ⟨by rfl, ?_⟩) (by assumption) ?_
        rotate_left
        · intro w hSw
          (try dsimp only at hSw)
          go_simp
          try with_reducible rfl
        try simp only [Act.put, List.setIfInBounds_toArray, List.set_cons_zero, List.set_cons_succ]
        refine wpAnyH_ready (rs := [15]) (by kernel_rfl) (by simp) ?_
        refine AllReadyH.cons (o := { dst := none, op := Op.store 64 (Operand.tmp 25) (Operand.tmp 23), type := 0, pos := "net.go:101", after := _, guard := none }) rfl (fun K hK => ?_) ?_
        · go_simp
          first
            | refine hK.out _ _ ?_ (fun hHeld => ?_)
            | (go_wp2_with fail; refine hK.out _ _ ?_ (fun hHeld => ?_))
          · (try dsimp only)
            first | assumption | exact HK1.out | exact Lib.cell?_alloc_some _ HK1.out | exact m1 | exact s1 | go_keep
          clear hK K
          try simp only [Act.put, List.setIfInBounds_toArray, List.set_cons_zero, List.set_cons_succ]
          refine wpAnyH_done (by kernel_rfl) ?_ _
          go_wp2
          go_end0
          exact ⟨rfl, _, HPP.out⟩
        exact AllReadyH.nil
      exact AllReadyH.nil
    exact AllReadyH.nil
  exact AllReadyH.nil
end Go.Proofs.Ytiiollgipfggmaa
