/- Each message that is taken was put in; what was not taken is there. -/
import Derived.Test.YtiiollgipfggmaaKPsh
namespace Go.Proofs.Ytiiollgipfggmaa
set_option linter.unusedVariables false
set_option linter.unusedSimpArgs false
open Go.RowKit

set_option maxRecDepth 200000 in
set_option maxHeartbeats 40000000 in
theorem lawKeeps_any {w : World} {v : Value} {D : List Dn} (h : Dns w v D) : Calls Try.prog 8 #[v] w fun e w' => e = .returned (.bool true) ∧ Below w.heap.size w w' := by
  have HSH := hide (shortS_any h)
  have HDW := hide (fun W (hW : Below w.heap.size w W) => h.below hW)
  have HAW := hide (fun W => awake_any W)
  have HNW := hide (fun W => new_bag W)
  obtain ⟨p, c, rfl, hlc, hcm, hx⟩ := h
  have hn9 : (D.length : Int) ≤ 9223372036854775807 := by unfold maxLen at hcm; omega
  obtain ⟨n, hn⟩ : ∃ n, D.length = n := ⟨_, rfl⟩
  rw [hn] at hn9 HSH HDW ⊢
  have HN := hide hn
  clear hlc hcm hx hn
  go_enter Try.func8, Try.ntmps8
  go_wp2_with fail
  refine HSH.out.mono ?_
  rintro e w1 ⟨⟨q, rfl, hq⟩, hb1⟩
  have HB1 := hide hb1
  clear hb1
  cases q with
  | false =>
    clear hq
    go_wp2_with fail
    refine (HAW.out _).mono ?_
    rintro e w3 ⟨rfl, hb3⟩
    go_wp2
    go_ret
    exact ⟨rfl, HB1.out.trans (hb3.mono HB1.out.size)⟩
  | true =>
    have HSM := hide (hq rfl)
    clear hq
    go_wp2_with fail
    refine (HNW.out _).mono ?_
    rintro e w2 ⟨g, rfl, hg2, hb2⟩
    have HQ0 : Hid (Kq w w2 w2.heap.size g (.slice none 0 0) (.slice none 0 0) (.slice none 0 0) ⟨0, []⟩ [] []) := hide ⟨?_, OwnM.nil _ _, OwnN.nil _ _, by simp, HB1.out.trans (hb2.mono HB1.out.size), hg2.gl, Nat.le_refl _⟩
    rotate_right
    · obtain ⟨E, hE, hD⟩ := hg2.row
      have := HB1.out.size
      exact ⟨Nat.le_trans this hg2.hB, hg2.c0, hg2.c1, hg2.c2, hg2.fr, ⟨E, ⟨hE.1, hE.2.imp id fun ⟨g, cap, cur, e, hb, r⟩ => ⟨g, cap, cur, e, Nat.le_trans this hb, r⟩⟩, hD.1, fun k e y a b => by
        obtain ⟨p, q, r⟩ := hD.2 k e y a b
        exact ⟨p, q.mono this, r⟩⟩, hg2.vg, hg2.ok⟩
    clear hg2 hb2
    go_wp2_with fail
    obtain ⟨B2, hB2⟩ : ∃ B, w2.heap.size = B := ⟨_, rfl⟩
    rw [hB2] at HQ0
    clear hB2
    go_loopw [4, 5, 6, 8, 9, 10, 11, 13, 25] (fun vt vi la _ _ _ _ _ jj wr => ∃ (k : Nat) (vb : Value) (x : Bg) (T : List Mc) (I : List Int), k ≤ n ∧ jj = .int .i64 k ∧ la = .int .i64 x.last ∧ (∃ p n c, vt = .slice p n c) ∧ (∃ p n c, vi = .slice p n c) ∧ Hid (Kq w wr B2 g vb vt vi x T I ∧ Kr x T I ∧ x.last ≤ (k : Int) * 300)) (fun _ _ _ _ _ _ _ _ jj _ => n - (intOf jj).toNat)
    case atStart => exact ⟨0, _, ⟨0, []⟩, [], [], by omega, rfl, rfl, ⟨_, _, _, rfl⟩, ⟨_, _, _, rfl⟩, hide ⟨HQ0.out, Kr.nil, by simp⟩⟩
    case round =>
      clear HQ0
      obtain ⟨k, vb, x, T, I, hk, rfl, rfl, ⟨pt, nt, ct, rfl⟩, ⟨pi, ni, ci, rfl⟩, HR⟩ := hrel
      by_cases hlt : k < n
      · have hkL : k < D.length := by have := HN.out; omega
        obtain ⟨d, hd⟩ : ∃ d, D[k]? = some d := ⟨_, List.getElem?_eq_getElem hkL⟩
        obtain ⟨p', c', hpe, _, _, hms⟩ := HDW.out wr HR.out.1.bel
        injection hpe with hpe1 hpe2 hpe3
        subst hpe1 hpe3
        clear hpe2
        obtain ⟨g2, o2, rfl, hmv, hc⟩ := hms k d hd
        obtain ⟨oo, hoo⟩ : ∃ oo, o2 + k * 3 = oo := ⟨_, rfl⟩
        rw [hoo] at hc
        have c0 := hc 0 _ rfl
        have c1 := hc 1 _ rfl
        have c2 := hc 2 _ rfl
        rw [Nat.add_zero] at c0
        have HSD := hide (HSM.out.2 d (List.mem_of_getElem? hd))
        have HK4 : Hid (k < 400) := hide (by have := HSM.out.1; omega)
        have HMSL : Hid (∀ W, Below w.heap.size w W → Mss W (.slice d.p d.n d.c) d.L) := hide (fun W hW => by
          obtain ⟨p', c', hpe, _, _, hms⟩ := HDW.out W hW
          obtain ⟨_, _, _, hh, _⟩ := hms k d hd
          exact hh)
        obtain ⟨op, hop⟩ : ∃ a, d.op = a := ⟨_, rfl⟩
        obtain ⟨id, hid⟩ : ∃ a, d.id = a := ⟨_, rfl⟩
        obtain ⟨dp, hdp⟩ : ∃ a, d.p = a := ⟨_, rfl⟩
        obtain ⟨dn, hdn⟩ : ∃ a, d.n = a := ⟨_, rfl⟩
        obtain ⟨dc, hdc⟩ : ∃ a, d.c = a := ⟨_, rfl⟩
        rw [hop] at c0
        rw [hid] at c1
        rw [hdp, hdn, hdc] at c2 HMSL
        have hZb : Below wr.heap.size wr (wr.alloc (.cells #[.int .i64 op, .int .i64 id, .slice dp dn dc] 52)) := (Below.refl _ _).alloc (Nat.le_refl _) _
        have hZr := heap_alloc_new wr (.cells #[.int .i64 op, .int .i64 id, .slice dp dn dc] 52)
        obtain ⟨Z, hZ⟩ : ∃ Z, wr.alloc (.cells #[.int .i64 op, .int .i64 id, .slice dp dn dc] 52) = Z := ⟨_, rfl⟩
        obtain ⟨bz, hbz⟩ : ∃ bz, wr.heap.size = bz := ⟨_, rfl⟩
        rw [hZ] at hZb hZr
        rw [hbz] at hZr
        have HQ := hide (HR.out.1.below hZb)
        have HKR := hide HR.out.2.1
        have HLA := hide HR.out.2.2
        have z0 := cell_of_row Z bz 0 _ 52 (0, 0) hZr
        have z1 := cell_of_row Z bz 1 _ 52 (0, 0) hZr
        have z2 := cell_of_row Z bz 2 _ 52 (0, 0) hZr
        simp only [List.getElem?_toArray, List.getElem?_cons_succ, List.getElem?_cons_zero] at z0 z1 z2
        have HZ := hide hZ
        have HZR := hide hZr
        have HIX := hide (index_any HQ.out.it.ns id)
        have HXI := hide (HKR.out.idx id)
        obtain ⟨iv, hiv⟩ : ∃ i, Lib.idxOf I id = i := ⟨_, rfl⟩
        rw [hiv] at HIX HXI
        have j0 : (0 : Int) ≤ (k : Int) := by omega
        have j1 : (k : Int) < (n : Int) := by omega
        clear hd hkL hmv hc hms hop hid hdp hdn hdc hZb hZr hiv
        go_wp2_with fail
        refine HIX.out.mono ?_
        rintro e w3 ⟨rfl, rfl⟩
        clear HIX hbz hZ c0 c1 c2
        by_cases h4 : (wrap64 ((IntKind.u64.wrap op).tmod 7) == 4) = true
        · as_aux_lemma =>
            have HTK := hide (take_bag HQ.out.bag id)
            go_wp2_with fail
            refine HTK.out.mono ?_
            rintro e w5 ⟨ve, vv, vd, rfl, hmo, vb5, hbg5, hch5⟩
            obtain ⟨pe5, ne5, ce5, rfl⟩ := hmo.es.ens.sl
            obtain ⟨pv5, nv5, cv5, rfl⟩ := hmo.vs.ns.sl
            obtain ⟨pd5, nd5, cd5, rfl⟩ := hmo.d.by_.sl
            have HQ5 := hide (HQ.out.call hbg5 hch5)
            have HM5 := hide hmo.v
            clear hmo hbg5 hch5 HTK
            obtain ⟨fk, hfk⟩ : ∃ f, findI x id = f := ⟨_, rfl⟩
            cases fk with
            | none =>
              have hpk : peekI x id = (ms0, 130) := by unfold peekI; rw [hfk]
              have hht : hitE x id = 130 := by unfold hitE; rw [hfk]
              have hli : loseI x id = x := lose_none hfk
              have hi1 : iv = -1 := by have h := HXI.out; rw [hfk] at h; exact h
              rw [hpk] at HM5 ⊢
              rw [hht]
              rw [hli] at HQ5
              subst hi1
              clear hpk hht hli hfk
              unfold msA
              dsimp only [ms0]
              obtain ⟨X, hX⟩ : ∃ X, w5.alloc (.cells #[.int .i64 0, .int .i64 0, .int .i64 0, .int .i64 0, .int .i64 0, .int .i64 0, .int .i64 0, .int .i64 0, .bool false, .bool false, .slice pe5 ne5 ce5, .slice pv5 nv5 cv5, .slice pd5 nd5 cd5] 26) = X := ⟨_, rfl⟩
              have hXb : Below w5.heap.size w5 X := by rw [← hX]; exact (Below.refl _ _).alloc (Nat.le_refl _) _
              have HQ6 := hide (HQ5.out.below hXb)
              clear hXb
              go_wp2_with fail
              refine wp_region_held_drew (S := fun _ => True) (by kernel_rfl) trivial (fun hHeld => ?_)
              refine wpAnyH_take (i := 0) (oi := { dst := some 73, op := Op.move (Operand.tmp 11), type := 31, pos := "law.go:207", after := #[], guard := none }) (v := ?_) rfl (by kernel_rfl) (by kernel_rfl) (by kernel_rfl) (fun _ _ _ h => h) (Or.inl ⟨by rfl, ?_⟩) trivial ?_
              rotate_left
              · intro w hSw
                (try dsimp only at hSw)
                go_simp
                try with_reducible rfl
              try simp only [Act.put, List.setIfInBounds_toArray, List.set_cons_zero, List.set_cons_succ]
              refine wpAnyH_take (i := 1) (oi := { dst := some 74, op := Op.binOp BinOp.eql 31 (Operand.tmp 73) (Operand.const (Value.int IntKind.i64 0)) 31, type := 4, pos := "law.go:207", after := _, guard := none }) (v := ?_) rfl (by kernel_rfl) (by kernel_rfl) (by kernel_rfl) (fun _ _ _ h => h) (Or.inl ⟨by rfl, ?_⟩) trivial ?_
              rotate_left
              · intro w hSw
                (try dsimp only at hSw)
                go_simp
                try with_reducible rfl
              try simp only [Act.put, List.setIfInBounds_toArray, List.set_cons_zero, List.set_cons_succ]
              refine wpAnyH_take (i := 2) (oi := { dst := some 75, op := Op.move (Operand.tmp 9), type := 3, pos := "law.go:207", after := #[], guard := none }) (v := ?_) rfl (by kernel_rfl) (by kernel_rfl) (by kernel_rfl) (fun _ _ _ h => h) (Or.inl ⟨by rfl, ?_⟩) trivial ?_
              rotate_left
              · intro w hSw
                (try dsimp only at hSw)
                go_simp
                try with_reducible rfl
              try simp only [Act.put, List.setIfInBounds_toArray, List.set_cons_zero, List.set_cons_succ]
              refine wpAnyH_take (i := 3) (oi := { dst := some 76, op := Op.binOp BinOp.geq 3 (Operand.tmp 75) (Operand.const (Value.int IntKind.i64 0)) 3, type := 4, pos := "law.go:207", after := _, guard := none }) (v := ?_) rfl (by kernel_rfl) (by kernel_rfl) (by kernel_rfl) (fun _ _ _ h => h) (Or.inl ⟨by rfl, ?_⟩) trivial ?_
              rotate_left
              · intro w hSw
                (try dsimp only at hSw)
                go_simp
                try with_reducible rfl
              try simp only [Act.put, List.setIfInBounds_toArray, List.set_cons_zero, List.set_cons_succ]
              refine wpAnyH_take (i := 4) (oi := { dst := some 77, op := Op.binOp BinOp.neq 4 (Operand.tmp 74) (Operand.tmp 76) 4, type := 4, pos := "law.go:207", after := _, guard := none }) (v := ?_) rfl (by kernel_rfl) (by kernel_rfl) (by kernel_rfl) (fun _ _ _ h => h) (Or.inl ⟨by rfl, ?_⟩) trivial ?_
              rotate_left
              · intro w hSw
                (try dsimp only at hSw)
                go_simp
                try with_reducible rfl
              try simp only [Act.put, List.setIfInBounds_toArray, List.set_cons_zero, List.set_cons_succ]
              refine wpAnyH_take (i := 5) (oi := { dst := some 78, op := Op.move (Operand.tmp 77), type := 4, pos := "law.go:207", after := _, guard := none }) (v := ?_) rfl (by kernel_rfl) (by kernel_rfl) (by kernel_rfl) (fun _ _ _ h => h) (Or.inl ⟨by rfl, ?_⟩) trivial ?_
              rotate_left
              · intro w hSw
                (try dsimp only at hSw)
                go_simp
                try with_reducible rfl
              try simp only [Act.put, List.setIfInBounds_toArray, List.set_cons_zero, List.set_cons_succ]
              refine wpAnyH_take (i := 6) (oi := { dst := some 79, op := Op.move (Operand.tmp 11), type := 31, pos := "law.go:207", after := _, guard := some (5, false) }) (v := ?_) rfl (by kernel_rfl) (by kernel_rfl) (by kernel_rfl) (fun _ _ _ h => h) (Or.inl ⟨by rfl, ?_⟩) trivial ?_
              rotate_left
              · intro w hSw
                (try dsimp only at hSw)
                go_simp
                try with_reducible rfl
              try simp only [Act.put, List.setIfInBounds_toArray, List.set_cons_zero, List.set_cons_succ]
              refine wpAnyH_take (i := 7) (oi := { dst := some 80, op := Op.binOp BinOp.eql 31 (Operand.tmp 79) (Operand.const (Value.int IntKind.i64 0)) 31, type := 4, pos := "law.go:207", after := _, guard := some (5, false) }) (v := ?_) rfl (by kernel_rfl) (by kernel_rfl) (by kernel_rfl) (fun _ _ _ h => h) (Or.inl ⟨by rfl, ?_⟩) trivial ?_
              rotate_left
              · intro w hSw
                (try dsimp only at hSw)
                go_simp
                try with_reducible rfl
              try simp only [Act.put, List.setIfInBounds_toArray, List.set_cons_zero, List.set_cons_succ]
              refine wpAnyH_take (i := 8) (oi := { dst := some 81, op := Op.move (Operand.tmp 80), type := 4, pos := "law.go:207", after := _, guard := some (5, false) }) (v := ?_) rfl (by kernel_rfl) (by kernel_rfl) (by kernel_rfl) (fun _ _ _ h => h) (Or.inl ⟨by rfl, ?_⟩) trivial ?_
              rotate_left
              · intro w hSw
                (try dsimp only at hSw)
                go_simp
                try with_reducible rfl
              try simp only [Act.put, List.setIfInBounds_toArray, List.set_cons_zero, List.set_cons_succ]
              refine wpAnyH_take (i := 9) (oi := { dst := some 82, op := Op.load 26 (Operand.tmp 10), type := 26, pos := "law.go:207", after := _, guard := some (8, true) }) (v := undef) rfl (by kernel_rfl) (by kernel_rfl) (by kernel_rfl) (fun _ _ _ h => h) (Or.inr ⟨by rfl, rfl⟩) trivial ?_
              try simp only [Act.put, List.setIfInBounds_toArray, List.set_cons_zero, List.set_cons_succ]
              refine wpAnyH_take (i := 10) (oi := { dst := some 83, op := Op.move (Operand.tmp 4), type := 28, pos := "law.go:207", after := _, guard := some (8, true) }) (v := undef) rfl (by kernel_rfl) (by kernel_rfl) (by kernel_rfl) (fun _ _ _ h => h) (Or.inr ⟨by rfl, rfl⟩) trivial ?_
              try simp only [Act.put, List.setIfInBounds_toArray, List.set_cons_zero, List.set_cons_succ]
              refine wpAnyH_take (i := 11) (oi := { dst := some 84, op := Op.move (Operand.tmp 9), type := 3, pos := "law.go:207", after := _, guard := some (8, true) }) (v := undef) rfl (by kernel_rfl) (by kernel_rfl) (by kernel_rfl) (fun _ _ _ h => h) (Or.inr ⟨by rfl, rfl⟩) trivial ?_
              try simp only [Act.put, List.setIfInBounds_toArray, List.set_cons_zero, List.set_cons_succ]
              refine wpAnyH_take (i := 12) (oi := { dst := some 85, op := Op.indexAddr 28 (Operand.tmp 83) (Operand.tmp 84), type := 0, pos := "law.go:207", after := _, guard := some (8, true) }) (v := undef) rfl (by kernel_rfl) (by kernel_rfl) (by kernel_rfl) (fun _ _ _ h => h) (Or.inr ⟨by rfl, rfl⟩) trivial ?_
              try simp only [Act.put, List.setIfInBounds_toArray, List.set_cons_zero, List.set_cons_succ]
              refine wpAnyH_take (i := 13) (oi := { dst := some 86, op := Op.load 26 (Operand.tmp 85), type := 26, pos := "law.go:207", after := _, guard := some (8, true) }) (v := undef) rfl (by kernel_rfl) (by kernel_rfl) (by kernel_rfl) (fun _ _ _ h => h) (Or.inr ⟨by rfl, rfl⟩) trivial ?_
              try simp only [Act.put, List.setIfInBounds_toArray, List.set_cons_zero, List.set_cons_succ]
              refine wpAnyH_take (i := 14) (oi := { dst := some 87, op := Op.call { callee := Callee.value (Operand.func 16), args := #[Operand.tmp 82, Operand.tmp 86], argTypes := #[26, 26] }, type := 4, pos := "law.go:207", after := _, guard := some (8, true) }) (v := undef) rfl (by kernel_rfl) (by kernel_rfl) (by kernel_rfl) (fun _ _ _ h => h) (Or.inr ⟨by rfl, rfl⟩) trivial ?_
              try simp only [Act.put, List.setIfInBounds_toArray, List.set_cons_zero, List.set_cons_succ]
              refine wpAnyH_take (i := 15) (oi := { dst := some 88, op := Op.unOp UnOp.not 4 (Operand.tmp 87), type := 4, pos := "law.go:207", after := _, guard := some (8, true) }) (v := undef) rfl (by kernel_rfl) (by kernel_rfl) (by kernel_rfl) (fun _ _ _ h => h) (Or.inr ⟨by rfl, rfl⟩) trivial ?_
              try simp only [Act.put, List.setIfInBounds_toArray, List.set_cons_zero, List.set_cons_succ]
              refine wpAnyH_take (i := 16) (oi := { dst := some 89, op := Op.pick (Operand.tmp 81) (Operand.tmp 88) (Operand.const (Value.bool false)), type := 4, pos := "law.go:207", after := _, guard := some (5, false) }) (v := ?_) rfl (by kernel_rfl) (by kernel_rfl) (by kernel_rfl) (fun _ _ _ h => h) (Or.inl ⟨by rfl, ?_⟩) trivial ?_
              rotate_left
              · intro w hSw
                (try dsimp only at hSw)
                go_simp
                try with_reducible rfl
              try simp only [Act.put, List.setIfInBounds_toArray, List.set_cons_zero, List.set_cons_succ]
              refine wpAnyH_take (i := 17) (oi := { dst := some 90, op := Op.pick (Operand.tmp 78) (Operand.const (Value.bool true)) (Operand.tmp 89), type := 4, pos := "law.go:207", after := _, guard := none }) (v := ?_) rfl (by kernel_rfl) (by kernel_rfl) (by kernel_rfl) (fun _ _ _ h => h) (Or.inl ⟨by rfl, ?_⟩) trivial ?_
              rotate_left
              · intro w hSw
                (try dsimp only at hSw)
                go_simp
                try with_reducible rfl
              try simp only [Act.put, List.setIfInBounds_toArray, List.set_cons_zero, List.set_cons_succ]
              refine wpAnyH_done (by kernel_rfl) ?_ _
              have HL9 : Hid (x.last ≤ ((k + 1 : Nat) : Int) * 300) := hide (by have := HLA.out; omega)
              have HQ7 := hide (HQ6.out.below (bel_drewN (Below.refl _ _) 1))
              have HLS := hide (list_bag HQ7.out.bag)
              have hn6 : decide (256 < (ni : Int)) = false := decide_eq_false (by have h1 := HQ7.out.it.ns.len.1; have h2 := HKR.out.lens.2; have h3 := HQ7.out.bag.ok.few; omega)
              go_wp2_with fail
              refine HLS.out.mono ?_
              rintro e wl ⟨ul, rfl, hol, hbl⟩
              rw [← HKR.out.im] at hol
              obtain ⟨pl, nl, cl, rfl⟩ := hol.ns.sl
              have HEQ := hide (eqInts_any hol.ns (HQ7.out.it.ns.below hbl))
              have HQL := hide (HQ7.out.below hbl)
              clear hol hbl HLS
              go_wp2_with fail
              refine HEQ.out.mono ?_
              rintro e wm ⟨rfl, hbm⟩
              have HQM := hide (HQL.out.below hbm)
              clear hbm
              go_wp2
              go_roundw
              case rel => exact ⟨k + 1, _, x, T, I, by omega, by go_num, rfl, ⟨_, _, _, rfl⟩, ⟨_, _, _, rfl⟩, hide ⟨HQM.out, HKR.out, HL9.out⟩⟩
              case measure => simp [intOf]; omega
            | some kf =>
              obtain ⟨y, hy⟩ : ∃ y, T[kf]? = some y := ⟨_, List.getElem?_eq_getElem (by have := HKR.out.lens.1; have := findI_lt hfk; omega)⟩
              have hpk : peekI x id = (y.m, 0) := HKR.out.peek hfk hy
              have hht : hitE x id = 0 := by unfold hitE; rw [hfk]
              have hi1 : iv = (kf : Int) := by have h := HXI.out; rw [hfk] at h; exact h
              have HKL := hide (HKR.out.lose hfk)
              have hkl := (List.getElem?_eq_some_iff.1 hy).1
              have HY := hide (HQ5.out.tv y (List.mem_of_getElem? hy))
              rw [hpk] at HM5 ⊢
              rw [hht]
              subst hi1
              have hnt := HQ5.out.mt.mcs.len
              have hni := HQ5.out.it.ns.len
              obtain ⟨gt, rfl, hnt1, hnt2, hnt3, hgB⟩ := HQ5.out.mt.form (by omega)
              obtain ⟨gi, rfl, hni1, hni2, hni3, hgBi⟩ := HQ5.out.it.form (by have h1 := HKR.out.lens; omega)
              obtain ⟨gt', he, _, hcy⟩ := HQ5.out.mt.at_ (by omega)
              injection he with he
              injection he with he _ _
              subst he
              have hcy := hcy kf y hy
              obtain ⟨kt, hkt⟩ : ∃ a, kf * 13 = a := ⟨_, rfl⟩
              rw [hkt] at hcy
              have HLT : Hid (kf < T.length ∧ nt = T.length ∧ kf < I.length ∧ ni = I.length ∧ T.length ≤ 256) := hide ⟨hkl, hnt.1, by have h1 := HKR.out.lens; omega, hni.1, by have h1 := HKR.out.lens; have h2 := HQ.out.bag.ok.few; omega⟩
              clear hpk hht hfk hnt hni hnt1 hnt2 hnt3 hgB hni1 hni2 hni3 hgBi hy
              unfold msA
              dsimp only
              obtain ⟨X, hX⟩ : ∃ X, w5.alloc (.cells #[.int .i64 y.m.k, .int .i64 y.m.f, .int .i64 y.m.t, .int .i64 y.m.tm, .int .i64 y.m.ix, .int .i64 y.m.lt, .int .i64 y.m.cm, .int .i64 y.m.rd, .bool y.m.ys, .bool y.m.dn, .slice pe5 ne5 ce5, .slice pv5 nv5 cv5, .slice pd5 nd5 cd5] 26) = X := ⟨_, rfl⟩
              have hXb : Below w5.heap.size w5 X := by rw [← hX]; exact (Below.refl _ _).alloc (Nat.le_refl _) _
              have hXr : X.heap[w5.heap.size]? = some (.cells #[.int .i64 y.m.k, .int .i64 y.m.f, .int .i64 y.m.t, .int .i64 y.m.tm, .int .i64 y.m.ix, .int .i64 y.m.lt, .int .i64 y.m.cm, .int .i64 y.m.rd, .bool y.m.ys, .bool y.m.dn, .slice pe5 ne5 ce5, .slice pv5 nv5 cv5, .slice pd5 nd5 cd5] 26 (0, 0)) := by rw [← hX]; exact heap_alloc_new w5 _
              have HX5 := Box13.of_row hXr
              obtain ⟨bm, hbm⟩ : ∃ b, w5.heap.size = b := ⟨_, rfl⟩
              rw [hbm] at HX5
              have HQ6 := hide (HQ5.out.below hXb)
              have HSA := hide (fun V (hV : Below X.heap.size X V) => sameM_any ((HM5.out.below hXb).below hV) (HY.out.below (HQ6.out.bel.trans (hV.mono HQ6.out.bel.size))))
              unfold msA at HSA
              have hsa : ∀ V, Below X.heap.size X V → V.cell? ⟨bm, 0, none⟩ = some (.int .i64 y.m.k) ∧ V.cell? ⟨bm, 1, none⟩ = some (.int .i64 y.m.f) ∧ V.cell? ⟨bm, 2, none⟩ = some (.int .i64 y.m.t) ∧ V.cell? ⟨bm, 3, none⟩ = some (.int .i64 y.m.tm) ∧ V.cell? ⟨bm, 4, none⟩ = some (.int .i64 y.m.ix) ∧ V.cell? ⟨bm, 5, none⟩ = some (.int .i64 y.m.lt) ∧ V.cell? ⟨bm, 6, none⟩ = some (.int .i64 y.m.cm) ∧ V.cell? ⟨bm, 7, none⟩ = some (.int .i64 y.m.rd) ∧ V.cell? ⟨bm, 8, none⟩ = some (.bool y.m.ys) ∧ V.cell? ⟨bm, 9, none⟩ = some (.bool y.m.dn) ∧ V.cell? ⟨bm, 10, none⟩ = some (.slice pe5 ne5 ce5) ∧ V.cell? ⟨bm, 11, none⟩ = some (.slice pv5 nv5 cv5) ∧ V.cell? ⟨bm, 12, none⟩ = some (.slice pd5 nd5 cd5) ∧ V.cell? ⟨gt, kt, none⟩ = some (.int .i64 y.m.k) ∧ V.cell? ⟨gt, kt + 1, none⟩ = some (.int .i64 y.m.f) ∧ V.cell? ⟨gt, kt + 2, none⟩ = some (.int .i64 y.m.t) ∧ V.cell? ⟨gt, kt + 3, none⟩ = some (.int .i64 y.m.tm) ∧ V.cell? ⟨gt, kt + 4, none⟩ = some (.int .i64 y.m.ix) ∧ V.cell? ⟨gt, kt + 5, none⟩ = some (.int .i64 y.m.lt) ∧ V.cell? ⟨gt, kt + 6, none⟩ = some (.int .i64 y.m.cm) ∧ V.cell? ⟨gt, kt + 7, none⟩ = some (.int .i64 y.m.rd) ∧ V.cell? ⟨gt, kt + 8, none⟩ = some (.bool y.m.ys) ∧ V.cell? ⟨gt, kt + 9, none⟩ = some (.bool y.m.dn) ∧ V.cell? ⟨gt, kt + 10, none⟩ = some (.slice y.pe y.ne y.ce) ∧ V.cell? ⟨gt, kt + 11, none⟩ = some (.slice y.pv y.nv y.cv) ∧ V.cell? ⟨gt, kt + 12, none⟩ = some (.slice y.pd y.nd y.cd) := fun V hV => by
                obtain ⟨b0, b1, b2, b3, b4, b5, b6, b7, b8, b9, b10, b11, b12⟩ := HX5.below hV
                have hq : ∀ (j : Nat) u, (mcC y)[j]? = some u → V.cell? ⟨gt, kt + j, none⟩ = some u := fun j u hj => by
                  have h1 := hcy j u hj
                  have h2 := (hXb.cell (lt_of_cell h1)).trans h1
                  exact (hV.cell (lt_of_cell h2)).trans h2
                exact ⟨b0, b1, b2, b3, b4, b5, b6, b7, b8, b9, b10, b11, b12, hq 0 _ rfl, hq 1 _ rfl, hq 2 _ rfl, hq 3 _ rfl, hq 4 _ rfl, hq 5 _ rfl, hq 6 _ rfl, hq 7 _ rfl, hq 8 _ rfl, hq 9 _ rfl, hq 10 _ rfl, hq 11 _ rfl, hq 12 _ rfl⟩
              have KEEP := hide hsa
              have j2 : (0 : Int) ≤ (kf : Int) := by omega
              have j3 : (kf : Int) < (nt : Int) := by have := HLT.out; omega
              clear hcy hXb hXr HX5 hsa hkl
              go_wp2_with fail
              refine wp_region_held_drew (S := fun V => V.cell? ⟨bm, 0, none⟩ = some (.int .i64 y.m.k) ∧ V.cell? ⟨bm, 1, none⟩ = some (.int .i64 y.m.f) ∧ V.cell? ⟨bm, 2, none⟩ = some (.int .i64 y.m.t) ∧ V.cell? ⟨bm, 3, none⟩ = some (.int .i64 y.m.tm) ∧ V.cell? ⟨bm, 4, none⟩ = some (.int .i64 y.m.ix) ∧ V.cell? ⟨bm, 5, none⟩ = some (.int .i64 y.m.lt) ∧ V.cell? ⟨bm, 6, none⟩ = some (.int .i64 y.m.cm) ∧ V.cell? ⟨bm, 7, none⟩ = some (.int .i64 y.m.rd) ∧ V.cell? ⟨bm, 8, none⟩ = some (.bool y.m.ys) ∧ V.cell? ⟨bm, 9, none⟩ = some (.bool y.m.dn) ∧ V.cell? ⟨bm, 10, none⟩ = some (.slice pe5 ne5 ce5) ∧ V.cell? ⟨bm, 11, none⟩ = some (.slice pv5 nv5 cv5) ∧ V.cell? ⟨bm, 12, none⟩ = some (.slice pd5 nd5 cd5) ∧ V.cell? ⟨gt, kt, none⟩ = some (.int .i64 y.m.k) ∧ V.cell? ⟨gt, kt + 1, none⟩ = some (.int .i64 y.m.f) ∧ V.cell? ⟨gt, kt + 2, none⟩ = some (.int .i64 y.m.t) ∧ V.cell? ⟨gt, kt + 3, none⟩ = some (.int .i64 y.m.tm) ∧ V.cell? ⟨gt, kt + 4, none⟩ = some (.int .i64 y.m.ix) ∧ V.cell? ⟨gt, kt + 5, none⟩ = some (.int .i64 y.m.lt) ∧ V.cell? ⟨gt, kt + 6, none⟩ = some (.int .i64 y.m.cm) ∧ V.cell? ⟨gt, kt + 7, none⟩ = some (.int .i64 y.m.rd) ∧ V.cell? ⟨gt, kt + 8, none⟩ = some (.bool y.m.ys) ∧ V.cell? ⟨gt, kt + 9, none⟩ = some (.bool y.m.dn) ∧ V.cell? ⟨gt, kt + 10, none⟩ = some (.slice y.pe y.ne y.ce) ∧ V.cell? ⟨gt, kt + 11, none⟩ = some (.slice y.pv y.nv y.cv) ∧ V.cell? ⟨gt, kt + 12, none⟩ = some (.slice y.pd y.nd y.cd)) (by kernel_rfl) ?_ (fun hHeld => ?_)
              · exact KEEP.out _ (bel_drewN (Below.refl _ _) 1)
              refine wpAnyH_take (i := 0) (oi := { dst := some 73, op := Op.move (Operand.tmp 11), type := 31, pos := "law.go:207", after := #[], guard := none }) (v := ?_) rfl (by kernel_rfl) (by kernel_rfl) (by kernel_rfl) (fun _ _ _ h => h) (Or.inl ⟨by rfl, ?_⟩) (by assumption) ?_
              rotate_left
              · intro w hSw
                (try dsimp only at hSw)
                go_simp
                try with_reducible rfl
              try simp only [Act.put, List.setIfInBounds_toArray, List.set_cons_zero, List.set_cons_succ]
              refine wpAnyH_take (i := 1) (oi := { dst := some 74, op := Op.binOp BinOp.eql 31 (Operand.tmp 73) (Operand.const (Value.int IntKind.i64 0)) 31, type := 4, pos := "law.go:207", after := _, guard := none }) (v := ?_) rfl (by kernel_rfl) (by kernel_rfl) (by kernel_rfl) (fun _ _ _ h => h) (Or.inl ⟨by rfl, ?_⟩) (by assumption) ?_
              rotate_left
              · intro w hSw
                (try dsimp only at hSw)
                go_simp
                try with_reducible rfl
              try simp only [Act.put, List.setIfInBounds_toArray, List.set_cons_zero, List.set_cons_succ]
              refine wpAnyH_take (i := 2) (oi := { dst := some 75, op := Op.move (Operand.tmp 9), type := 3, pos := "law.go:207", after := #[], guard := none }) (v := ?_) rfl (by kernel_rfl) (by kernel_rfl) (by kernel_rfl) (fun _ _ _ h => h) (Or.inl ⟨by rfl, ?_⟩) (by assumption) ?_
              rotate_left
              · intro w hSw
                (try dsimp only at hSw)
                go_simp
                try with_reducible rfl
              try simp only [Act.put, List.setIfInBounds_toArray, List.set_cons_zero, List.set_cons_succ]
              refine wpAnyH_take (i := 3) (oi := { dst := some 76, op := Op.binOp BinOp.geq 3 (Operand.tmp 75) (Operand.const (Value.int IntKind.i64 0)) 3, type := 4, pos := "law.go:207", after := _, guard := none }) (v := ?_) rfl (by kernel_rfl) (by kernel_rfl) (by kernel_rfl) (fun _ _ _ h => h) (Or.inl ⟨by rfl, ?_⟩) (by assumption) ?_
              rotate_left
              · intro w hSw
                (try dsimp only at hSw)
                go_simp
                try with_reducible rfl
              try simp only [Act.put, List.setIfInBounds_toArray, List.set_cons_zero, List.set_cons_succ]
              refine wpAnyH_take (i := 4) (oi := { dst := some 77, op := Op.binOp BinOp.neq 4 (Operand.tmp 74) (Operand.tmp 76) 4, type := 4, pos := "law.go:207", after := _, guard := none }) (v := ?_) rfl (by kernel_rfl) (by kernel_rfl) (by kernel_rfl) (fun _ _ _ h => h) (Or.inl ⟨by rfl, ?_⟩) (by assumption) ?_
              rotate_left
              · intro w hSw
                (try dsimp only at hSw)
                go_simp
                try with_reducible rfl
              try simp only [Act.put, List.setIfInBounds_toArray, List.set_cons_zero, List.set_cons_succ]
              refine wpAnyH_take (i := 5) (oi := { dst := some 78, op := Op.move (Operand.tmp 77), type := 4, pos := "law.go:207", after := _, guard := none }) (v := ?_) rfl (by kernel_rfl) (by kernel_rfl) (by kernel_rfl) (fun _ _ _ h => h) (Or.inl ⟨by rfl, ?_⟩) (by assumption) ?_
              rotate_left
              · intro w hSw
                (try dsimp only at hSw)
                go_simp
                try with_reducible rfl
              try simp only [Act.put, List.setIfInBounds_toArray, List.set_cons_zero, List.set_cons_succ]
              refine wpAnyH_take (i := 6) (oi := { dst := some 79, op := Op.move (Operand.tmp 11), type := 31, pos := "law.go:207", after := _, guard := some (5, false) }) (v := ?_) rfl (by kernel_rfl) (by kernel_rfl) (by kernel_rfl) (fun _ _ _ h => h) (Or.inl ⟨by rfl, ?_⟩) (by assumption) ?_
              rotate_left
              · intro w hSw
                (try dsimp only at hSw)
                go_simp
                try with_reducible rfl
              try simp only [Act.put, List.setIfInBounds_toArray, List.set_cons_zero, List.set_cons_succ]
              refine wpAnyH_take (i := 7) (oi := { dst := some 80, op := Op.binOp BinOp.eql 31 (Operand.tmp 79) (Operand.const (Value.int IntKind.i64 0)) 31, type := 4, pos := "law.go:207", after := _, guard := some (5, false) }) (v := ?_) rfl (by kernel_rfl) (by kernel_rfl) (by kernel_rfl) (fun _ _ _ h => h) (Or.inl ⟨by rfl, ?_⟩) (by assumption) ?_
              rotate_left
              · intro w hSw
                (try dsimp only at hSw)
                go_simp
                try with_reducible rfl
              try simp only [Act.put, List.setIfInBounds_toArray, List.set_cons_zero, List.set_cons_succ]
              refine wpAnyH_take (i := 8) (oi := { dst := some 81, op := Op.move (Operand.tmp 80), type := 4, pos := "law.go:207", after := _, guard := some (5, false) }) (v := ?_) rfl (by kernel_rfl) (by kernel_rfl) (by kernel_rfl) (fun _ _ _ h => h) (Or.inl ⟨by rfl, ?_⟩) (by assumption) ?_
              rotate_left
              · intro w hSw
                (try dsimp only at hSw)
                go_simp
                try with_reducible rfl
              try simp only [Act.put, List.setIfInBounds_toArray, List.set_cons_zero, List.set_cons_succ]
              refine wpAnyH_take (i := 9) (oi := { dst := some 82, op := Op.load 26 (Operand.tmp 10), type := 26, pos := "law.go:207", after := _, guard := some (8, true) }) (v := ?_) rfl (by kernel_rfl) (by kernel_rfl) (by kernel_rfl) (fun _ _ _ h => h) (Or.inl ⟨by rfl, ?_⟩) (by assumption) ?_
              rotate_left
              · intro w hSw
                (try dsimp only at hSw)
                go_simp
                try with_reducible rfl
              try simp only [Act.put, List.setIfInBounds_toArray, List.set_cons_zero, List.set_cons_succ]
              refine wpAnyH_take (i := 10) (oi := { dst := some 83, op := Op.move (Operand.tmp 4), type := 28, pos := "law.go:207", after := _, guard := some (8, true) }) (v := ?_) rfl (by kernel_rfl) (by kernel_rfl) (by kernel_rfl) (fun _ _ _ h => h) (Or.inl ⟨by rfl, ?_⟩) (by assumption) ?_
              rotate_left
              · intro w hSw
                (try dsimp only at hSw)
                go_simp
                try with_reducible rfl
              try simp only [Act.put, List.setIfInBounds_toArray, List.set_cons_zero, List.set_cons_succ]
              refine wpAnyH_take (i := 11) (oi := { dst := some 84, op := Op.move (Operand.tmp 9), type := 3, pos := "law.go:207", after := _, guard := some (8, true) }) (v := ?_) rfl (by kernel_rfl) (by kernel_rfl) (by kernel_rfl) (fun _ _ _ h => h) (Or.inl ⟨by rfl, ?_⟩) (by assumption) ?_
              rotate_left
              · intro w hSw
                (try dsimp only at hSw)
                go_simp
                try with_reducible rfl
              try simp only [Act.put, List.setIfInBounds_toArray, List.set_cons_zero, List.set_cons_succ]
              refine wpAnyH_take (i := 12) (oi := { dst := some 85, op := Op.indexAddr 28 (Operand.tmp 83) (Operand.tmp 84), type := 0, pos := "law.go:207", after := _, guard := some (8, true) }) (v := ?_) rfl (by kernel_rfl) (by kernel_rfl) (by kernel_rfl) (fun _ _ _ h => h) (Or.inl ⟨by rfl, ?_⟩) (by assumption) ?_
              rotate_left
              · intro w hSw
                (try dsimp only at hSw)
                go_simp
                try with_reducible rfl
              try simp only [Act.put, List.setIfInBounds_toArray, List.set_cons_zero, List.set_cons_succ]
              refine wpAnyH_take (i := 13) (oi := { dst := some 86, op := Op.load 26 (Operand.tmp 85), type := 26, pos := "law.go:207", after := _, guard := some (8, true) }) (v := ?_) rfl (by kernel_rfl) (by kernel_rfl) (by kernel_rfl) (fun _ _ _ h => h) (Or.inl ⟨by rfl, ?_⟩) (by assumption) ?_
              rotate_left
              · intro w hSw
                (try dsimp only at hSw)
                go_simp
                try with_reducible rfl
              try simp only [Act.put, List.setIfInBounds_toArray, List.set_cons_zero, List.set_cons_succ]
              refine wpAnyH_ready (rs := [14]) (by kernel_rfl) (by simp) ?_
              refine AllReadyH.cons (o := { dst := some 87, op := Op.call { callee := Callee.value (Operand.func 16), args := #[Operand.tmp 82, Operand.tmp 86], argTypes := #[26, 26] }, type := 4, pos := "law.go:207", after := _, guard := some (8, true) }) rfl (fun K hK => ?_) AllReadyH.nil
              go_simp
              go_at_call 16
              refine (HSA.out _ (by first | exact Below.refl _ _ | exact bel_drewN (Below.refl _ _) 1)).mono ?_
              rintro e7 w7 ⟨rfl, hb7⟩
              first
                | refine hK.out _ _ ?_ (fun hHeld => ?_)
                | (go_wp2_with fail; refine hK.out _ _ ?_ (fun hHeld => ?_))
              · exact KEEP.out _ (by first | exact hb7 | exact (bel_drewN (Below.refl _ X) 1).trans hb7)
              clear hK K
              try simp only [Act.put, List.setIfInBounds_toArray, List.set_cons_zero, List.set_cons_succ]
              refine wpAnyH_take (i := 15) (oi := { dst := some 88, op := Op.unOp UnOp.not 4 (Operand.tmp 87), type := 4, pos := "law.go:207", after := _, guard := some (8, true) }) (v := ?_) rfl (by kernel_rfl) (by kernel_rfl) (by kernel_rfl) (fun _ _ _ h => h) (Or.inl ⟨by rfl, ?_⟩) (by assumption) ?_
              rotate_left
              · intro w hSw
                (try dsimp only at hSw)
                go_simp
                try with_reducible rfl
              try simp only [Act.put, List.setIfInBounds_toArray, List.set_cons_zero, List.set_cons_succ]
              refine wpAnyH_take (i := 16) (oi := { dst := some 89, op := Op.pick (Operand.tmp 81) (Operand.tmp 88) (Operand.const (Value.bool false)), type := 4, pos := "law.go:207", after := _, guard := some (5, false) }) (v := ?_) rfl (by kernel_rfl) (by kernel_rfl) (by kernel_rfl) (fun _ _ _ h => h) (Or.inl ⟨by rfl, ?_⟩) (by assumption) ?_
              rotate_left
              · intro w hSw
                (try dsimp only at hSw)
                go_simp
                try with_reducible rfl
              try simp only [Act.put, List.setIfInBounds_toArray, List.set_cons_zero, List.set_cons_succ]
              refine wpAnyH_take (i := 17) (oi := { dst := some 90, op := Op.pick (Operand.tmp 78) (Operand.const (Value.bool true)) (Operand.tmp 89), type := 4, pos := "law.go:207", after := _, guard := none }) (v := ?_) rfl (by kernel_rfl) (by kernel_rfl) (by kernel_rfl) (fun _ _ _ h => h) (Or.inl ⟨by rfl, ?_⟩) (by assumption) ?_
              rotate_left
              · intro w hSw
                (try dsimp only at hSw)
                go_simp
                try with_reducible rfl
              try simp only [Act.put, List.setIfInBounds_toArray, List.set_cons_zero, List.set_cons_succ]
              refine wpAnyH_done (by kernel_rfl) ?_ _
              have hb7x : Below X.heap.size X w7 := by first | exact hb7 | exact (bel_drewN (Below.refl _ X) 1).trans hb7
              have HQ7 := hide (HQ6.out.below hb7x)
              have HCM := hide (cloneM_any HQ7.out.mt.mcs (by have := HLT.out; omega))
              have hw1 : IntKind.i64.wrap ((kf : Int) + 1) = (kf : Int) + 1 := by have := HLT.out; rw [IntKind.wrap_i64]; omega
              clear hb7 hb7x KEEP HSA
              go_wp2_with fail
              refine HCM.out.mono ?_
              rintro e8 w8 ⟨pc, nc, cc, rfl, hoc, hbc⟩
              obtain ⟨gc, rfl, rfl, hnc1, hnc2, hgc⟩ := hoc.form (by have := HLT.out; omega)
              have HDM := hide (deleteM_any hoc (k := kf) (by have := HLT.out; omega) ⟨hnc1, hnc2⟩)
              have HB8 := hide hbc
              have HGC := hide (And.intro hgc (hoc.lt gc rfl).2)
              clear hoc hbc hnc1 hnc2 hgc HCM
              go_wp2_with fail
              refine HDM.out.mono ?_
              rintro e9 w9 ⟨rfl, hod, hgd⟩
              have HB9 : Hid (Below w7.heap.size w7 w9) := hide (HB8.out.grown hgd HB8.out.size fun k hk => by injection hk with hk; have := HGC.out; omega)
              have HOD := hide hod
              have HQ9 := hide (HQ7.out.below HB9.out)
              have HCN := hide (cloneN_any HQ9.out.it.ns (by have := HLT.out; have h1 := HKR.out.lens; omega))
              clear hod hgd HDM
              go_wp2_with fail
              refine HCN.out.mono ?_
              rintro e10 w10 ⟨pj, nj, cj, rfl, hoj, hbj⟩
              obtain ⟨gj, rfl, rfl, hnj1, hnj2, hgj⟩ := hoj.form (by have := HLT.out; omega)
              have HDN := hide (deleteN_any hoj (k := kf) (by have := HLT.out; omega))
              have HBJ := hide hbj
              have HGJ := hide hgj
              clear hoj hbj hnj1 hnj2 hgj HCN
              go_wp2_with fail
              refine HDN.out.mono ?_
              rintro e11 w11 ⟨rfl, hoe, hbe⟩
              have HB11 : Hid (Below w9.heap.size w9 w11) := hide (hbe _ _ HBJ.out HGJ.out)
              have HQB : Hid (Kq w w11 B2 g vb5 (.slice (some ⟨gc, 0, none⟩) (T.length - 1) cc) (.slice (some ⟨gj, 0, none⟩) (I.length - 1) cj) (loseI x id) (T.eraseIdx kf) (I.eraseIdx kf)) := hide ((HQ9.out.below HB11.out).rows ((HOD.out.mono HQ7.out.bB).below HB11.out) (hoe.mono HQ9.out.bB) fun y hy => HQ5.out.tv y (List.mem_of_mem_eraseIdx hy))
              have HL9 : Hid ((loseI x id).last ≤ ((k + 1 : Nat) : Int) * 300) := hide (by
                have h1 : (loseI x id).last = x.last := by unfold loseI; split <;> rfl
                have := HLA.out
                omega)
              have hxl : x.last = (loseI x id).last := by unfold loseI; split <;> rfl
              have HXL := hide hxl
              clear hoe hbe HDN hxl hw1
              have HLS := hide (list_bag HQB.out.bag)
              have hn6 : decide (256 < ((I.length - 1 : Nat) : Int)) = false := decide_eq_false (by have h1 := HQB.out.it.ns.len.1; have h2 := HKL.out.lens.2; have h3 := HQB.out.bag.ok.few; omega)
              go_wp2_with fail
              refine HLS.out.mono ?_
              rintro e wl ⟨ul, rfl, hol, hbl⟩
              rw [← HKL.out.im] at hol
              obtain ⟨pl, nl, cl, rfl⟩ := hol.ns.sl
              have HEQ := hide (eqInts_any hol.ns (HQB.out.it.ns.below hbl))
              have HQL := hide (HQB.out.below hbl)
              clear hol hbl HLS
              go_wp2_with fail
              refine HEQ.out.mono ?_
              rintro e wm ⟨rfl, hbm⟩
              have HQM := hide (HQL.out.below hbm)
              clear hbm
              go_wp2
              go_roundw
              case rel => exact ⟨k + 1, _, (loseI x id), (T.eraseIdx kf), (I.eraseIdx kf), by omega, by go_num, (by rw [← HXL.out]), ⟨_, _, _, rfl⟩, ⟨_, _, _, rfl⟩, hide ⟨HQM.out, HKL.out, HL9.out⟩⟩
              case measure => simp [intOf]; omega
        · replace h4 : (wrap64 ((IntKind.u64.wrap op).tmod 7) == 4) = false := by simpa using h4
          by_cases h5 : (wrap64 ((IntKind.u64.wrap op).tmod 7) == 5) = true
          · as_aux_lemma =>
              have HTK := hide (take_bag HQ.out.bag id)
              go_wp2_with fail
              refine HTK.out.mono ?_
              rintro e w5 ⟨ve, vv, vd, rfl, hmo, vb5, hbg5, hch5⟩
              obtain ⟨pe5, ne5, ce5, rfl⟩ := hmo.es.ens.sl
              obtain ⟨pv5, nv5, cv5, rfl⟩ := hmo.vs.ns.sl
              obtain ⟨pd5, nd5, cd5, rfl⟩ := hmo.d.by_.sl
              have HQ5 := hide (HQ.out.call hbg5 hch5)
              have HM5 := hide hmo.v
              clear hmo hbg5 hch5 HTK
              obtain ⟨fk, hfk⟩ : ∃ f, findI x id = f := ⟨_, rfl⟩
              cases fk with
              | none =>
                have hpk : peekI x id = (ms0, 130) := by unfold peekI; rw [hfk]
                have hht : hitE x id = 130 := by unfold hitE; rw [hfk]
                have hli : loseI x id = x := lose_none hfk
                have hi1 : iv = -1 := by have h := HXI.out; rw [hfk] at h; exact h
                rw [hpk] at HM5 ⊢
                rw [hht]
                rw [hli] at HQ5
                subst hi1
                clear hpk hht hli hfk
                unfold msA
                dsimp only [ms0]
                obtain ⟨X, hX⟩ : ∃ X, w5.alloc (.cells #[.int .i64 0, .int .i64 0, .int .i64 0, .int .i64 0, .int .i64 0, .int .i64 0, .int .i64 0, .int .i64 0, .bool false, .bool false, .slice pe5 ne5 ce5, .slice pv5 nv5 cv5, .slice pd5 nd5 cd5] 26) = X := ⟨_, rfl⟩
                have hXb : Below w5.heap.size w5 X := by rw [← hX]; exact (Below.refl _ _).alloc (Nat.le_refl _) _
                have HQ6 := hide (HQ5.out.below hXb)
                clear hXb
                go_wp2_with fail
                refine wp_region_held_drew (S := fun _ => True) (by kernel_rfl) trivial (fun hHeld => ?_)
                refine wpAnyH_take (i := 0) (oi := { dst := some 73, op := Op.move (Operand.tmp 11), type := 31, pos := "law.go:207", after := #[], guard := none }) (v := ?_) rfl (by kernel_rfl) (by kernel_rfl) (by kernel_rfl) (fun _ _ _ h => h) (Or.inl ⟨by rfl, ?_⟩) trivial ?_
                rotate_left
                · intro w hSw
                  (try dsimp only at hSw)
                  go_simp
                  try with_reducible rfl
                try simp only [Act.put, List.setIfInBounds_toArray, List.set_cons_zero, List.set_cons_succ]
                refine wpAnyH_take (i := 1) (oi := { dst := some 74, op := Op.binOp BinOp.eql 31 (Operand.tmp 73) (Operand.const (Value.int IntKind.i64 0)) 31, type := 4, pos := "law.go:207", after := _, guard := none }) (v := ?_) rfl (by kernel_rfl) (by kernel_rfl) (by kernel_rfl) (fun _ _ _ h => h) (Or.inl ⟨by rfl, ?_⟩) trivial ?_
                rotate_left
                · intro w hSw
                  (try dsimp only at hSw)
                  go_simp
                  try with_reducible rfl
                try simp only [Act.put, List.setIfInBounds_toArray, List.set_cons_zero, List.set_cons_succ]
                refine wpAnyH_take (i := 2) (oi := { dst := some 75, op := Op.move (Operand.tmp 9), type := 3, pos := "law.go:207", after := #[], guard := none }) (v := ?_) rfl (by kernel_rfl) (by kernel_rfl) (by kernel_rfl) (fun _ _ _ h => h) (Or.inl ⟨by rfl, ?_⟩) trivial ?_
                rotate_left
                · intro w hSw
                  (try dsimp only at hSw)
                  go_simp
                  try with_reducible rfl
                try simp only [Act.put, List.setIfInBounds_toArray, List.set_cons_zero, List.set_cons_succ]
                refine wpAnyH_take (i := 3) (oi := { dst := some 76, op := Op.binOp BinOp.geq 3 (Operand.tmp 75) (Operand.const (Value.int IntKind.i64 0)) 3, type := 4, pos := "law.go:207", after := _, guard := none }) (v := ?_) rfl (by kernel_rfl) (by kernel_rfl) (by kernel_rfl) (fun _ _ _ h => h) (Or.inl ⟨by rfl, ?_⟩) trivial ?_
                rotate_left
                · intro w hSw
                  (try dsimp only at hSw)
                  go_simp
                  try with_reducible rfl
                try simp only [Act.put, List.setIfInBounds_toArray, List.set_cons_zero, List.set_cons_succ]
                refine wpAnyH_take (i := 4) (oi := { dst := some 77, op := Op.binOp BinOp.neq 4 (Operand.tmp 74) (Operand.tmp 76) 4, type := 4, pos := "law.go:207", after := _, guard := none }) (v := ?_) rfl (by kernel_rfl) (by kernel_rfl) (by kernel_rfl) (fun _ _ _ h => h) (Or.inl ⟨by rfl, ?_⟩) trivial ?_
                rotate_left
                · intro w hSw
                  (try dsimp only at hSw)
                  go_simp
                  try with_reducible rfl
                try simp only [Act.put, List.setIfInBounds_toArray, List.set_cons_zero, List.set_cons_succ]
                refine wpAnyH_take (i := 5) (oi := { dst := some 78, op := Op.move (Operand.tmp 77), type := 4, pos := "law.go:207", after := _, guard := none }) (v := ?_) rfl (by kernel_rfl) (by kernel_rfl) (by kernel_rfl) (fun _ _ _ h => h) (Or.inl ⟨by rfl, ?_⟩) trivial ?_
                rotate_left
                · intro w hSw
                  (try dsimp only at hSw)
                  go_simp
                  try with_reducible rfl
                try simp only [Act.put, List.setIfInBounds_toArray, List.set_cons_zero, List.set_cons_succ]
                refine wpAnyH_take (i := 6) (oi := { dst := some 79, op := Op.move (Operand.tmp 11), type := 31, pos := "law.go:207", after := _, guard := some (5, false) }) (v := ?_) rfl (by kernel_rfl) (by kernel_rfl) (by kernel_rfl) (fun _ _ _ h => h) (Or.inl ⟨by rfl, ?_⟩) trivial ?_
                rotate_left
                · intro w hSw
                  (try dsimp only at hSw)
                  go_simp
                  try with_reducible rfl
                try simp only [Act.put, List.setIfInBounds_toArray, List.set_cons_zero, List.set_cons_succ]
                refine wpAnyH_take (i := 7) (oi := { dst := some 80, op := Op.binOp BinOp.eql 31 (Operand.tmp 79) (Operand.const (Value.int IntKind.i64 0)) 31, type := 4, pos := "law.go:207", after := _, guard := some (5, false) }) (v := ?_) rfl (by kernel_rfl) (by kernel_rfl) (by kernel_rfl) (fun _ _ _ h => h) (Or.inl ⟨by rfl, ?_⟩) trivial ?_
                rotate_left
                · intro w hSw
                  (try dsimp only at hSw)
                  go_simp
                  try with_reducible rfl
                try simp only [Act.put, List.setIfInBounds_toArray, List.set_cons_zero, List.set_cons_succ]
                refine wpAnyH_take (i := 8) (oi := { dst := some 81, op := Op.move (Operand.tmp 80), type := 4, pos := "law.go:207", after := _, guard := some (5, false) }) (v := ?_) rfl (by kernel_rfl) (by kernel_rfl) (by kernel_rfl) (fun _ _ _ h => h) (Or.inl ⟨by rfl, ?_⟩) trivial ?_
                rotate_left
                · intro w hSw
                  (try dsimp only at hSw)
                  go_simp
                  try with_reducible rfl
                try simp only [Act.put, List.setIfInBounds_toArray, List.set_cons_zero, List.set_cons_succ]
                refine wpAnyH_take (i := 9) (oi := { dst := some 82, op := Op.load 26 (Operand.tmp 10), type := 26, pos := "law.go:207", after := _, guard := some (8, true) }) (v := undef) rfl (by kernel_rfl) (by kernel_rfl) (by kernel_rfl) (fun _ _ _ h => h) (Or.inr ⟨by rfl, rfl⟩) trivial ?_
                try simp only [Act.put, List.setIfInBounds_toArray, List.set_cons_zero, List.set_cons_succ]
                refine wpAnyH_take (i := 10) (oi := { dst := some 83, op := Op.move (Operand.tmp 4), type := 28, pos := "law.go:207", after := _, guard := some (8, true) }) (v := undef) rfl (by kernel_rfl) (by kernel_rfl) (by kernel_rfl) (fun _ _ _ h => h) (Or.inr ⟨by rfl, rfl⟩) trivial ?_
                try simp only [Act.put, List.setIfInBounds_toArray, List.set_cons_zero, List.set_cons_succ]
                refine wpAnyH_take (i := 11) (oi := { dst := some 84, op := Op.move (Operand.tmp 9), type := 3, pos := "law.go:207", after := _, guard := some (8, true) }) (v := undef) rfl (by kernel_rfl) (by kernel_rfl) (by kernel_rfl) (fun _ _ _ h => h) (Or.inr ⟨by rfl, rfl⟩) trivial ?_
                try simp only [Act.put, List.setIfInBounds_toArray, List.set_cons_zero, List.set_cons_succ]
                refine wpAnyH_take (i := 12) (oi := { dst := some 85, op := Op.indexAddr 28 (Operand.tmp 83) (Operand.tmp 84), type := 0, pos := "law.go:207", after := _, guard := some (8, true) }) (v := undef) rfl (by kernel_rfl) (by kernel_rfl) (by kernel_rfl) (fun _ _ _ h => h) (Or.inr ⟨by rfl, rfl⟩) trivial ?_
                try simp only [Act.put, List.setIfInBounds_toArray, List.set_cons_zero, List.set_cons_succ]
                refine wpAnyH_take (i := 13) (oi := { dst := some 86, op := Op.load 26 (Operand.tmp 85), type := 26, pos := "law.go:207", after := _, guard := some (8, true) }) (v := undef) rfl (by kernel_rfl) (by kernel_rfl) (by kernel_rfl) (fun _ _ _ h => h) (Or.inr ⟨by rfl, rfl⟩) trivial ?_
                try simp only [Act.put, List.setIfInBounds_toArray, List.set_cons_zero, List.set_cons_succ]
                refine wpAnyH_take (i := 14) (oi := { dst := some 87, op := Op.call { callee := Callee.value (Operand.func 16), args := #[Operand.tmp 82, Operand.tmp 86], argTypes := #[26, 26] }, type := 4, pos := "law.go:207", after := _, guard := some (8, true) }) (v := undef) rfl (by kernel_rfl) (by kernel_rfl) (by kernel_rfl) (fun _ _ _ h => h) (Or.inr ⟨by rfl, rfl⟩) trivial ?_
                try simp only [Act.put, List.setIfInBounds_toArray, List.set_cons_zero, List.set_cons_succ]
                refine wpAnyH_take (i := 15) (oi := { dst := some 88, op := Op.unOp UnOp.not 4 (Operand.tmp 87), type := 4, pos := "law.go:207", after := _, guard := some (8, true) }) (v := undef) rfl (by kernel_rfl) (by kernel_rfl) (by kernel_rfl) (fun _ _ _ h => h) (Or.inr ⟨by rfl, rfl⟩) trivial ?_
                try simp only [Act.put, List.setIfInBounds_toArray, List.set_cons_zero, List.set_cons_succ]
                refine wpAnyH_take (i := 16) (oi := { dst := some 89, op := Op.pick (Operand.tmp 81) (Operand.tmp 88) (Operand.const (Value.bool false)), type := 4, pos := "law.go:207", after := _, guard := some (5, false) }) (v := ?_) rfl (by kernel_rfl) (by kernel_rfl) (by kernel_rfl) (fun _ _ _ h => h) (Or.inl ⟨by rfl, ?_⟩) trivial ?_
                rotate_left
                · intro w hSw
                  (try dsimp only at hSw)
                  go_simp
                  try with_reducible rfl
                try simp only [Act.put, List.setIfInBounds_toArray, List.set_cons_zero, List.set_cons_succ]
                refine wpAnyH_take (i := 17) (oi := { dst := some 90, op := Op.pick (Operand.tmp 78) (Operand.const (Value.bool true)) (Operand.tmp 89), type := 4, pos := "law.go:207", after := _, guard := none }) (v := ?_) rfl (by kernel_rfl) (by kernel_rfl) (by kernel_rfl) (fun _ _ _ h => h) (Or.inl ⟨by rfl, ?_⟩) trivial ?_
                rotate_left
                · intro w hSw
                  (try dsimp only at hSw)
                  go_simp
                  try with_reducible rfl
                try simp only [Act.put, List.setIfInBounds_toArray, List.set_cons_zero, List.set_cons_succ]
                refine wpAnyH_done (by kernel_rfl) ?_ _
                have HL9 : Hid (x.last ≤ ((k + 1 : Nat) : Int) * 300) := hide (by have := HLA.out; omega)
                have HQ7 := hide (HQ6.out.below (bel_drewN (Below.refl _ _) 1))
                have HLS := hide (list_bag HQ7.out.bag)
                have hn6 : decide (256 < (ni : Int)) = false := decide_eq_false (by have h1 := HQ7.out.it.ns.len.1; have h2 := HKR.out.lens.2; have h3 := HQ7.out.bag.ok.few; omega)
                go_wp2_with fail
                refine HLS.out.mono ?_
                rintro e wl ⟨ul, rfl, hol, hbl⟩
                rw [← HKR.out.im] at hol
                obtain ⟨pl, nl, cl, rfl⟩ := hol.ns.sl
                have HEQ := hide (eqInts_any hol.ns (HQ7.out.it.ns.below hbl))
                have HQL := hide (HQ7.out.below hbl)
                clear hol hbl HLS
                go_wp2_with fail
                refine HEQ.out.mono ?_
                rintro e wm ⟨rfl, hbm⟩
                have HQM := hide (HQL.out.below hbm)
                clear hbm
                go_wp2
                go_roundw
                case rel => exact ⟨k + 1, _, x, T, I, by omega, by go_num, rfl, ⟨_, _, _, rfl⟩, ⟨_, _, _, rfl⟩, hide ⟨HQM.out, HKR.out, HL9.out⟩⟩
                case measure => simp [intOf]; omega
              | some kf =>
                obtain ⟨y, hy⟩ : ∃ y, T[kf]? = some y := ⟨_, List.getElem?_eq_getElem (by have := HKR.out.lens.1; have := findI_lt hfk; omega)⟩
                have hpk : peekI x id = (y.m, 0) := HKR.out.peek hfk hy
                have hht : hitE x id = 0 := by unfold hitE; rw [hfk]
                have hi1 : iv = (kf : Int) := by have h := HXI.out; rw [hfk] at h; exact h
                have HKL := hide (HKR.out.lose hfk)
                have hkl := (List.getElem?_eq_some_iff.1 hy).1
                have HY := hide (HQ5.out.tv y (List.mem_of_getElem? hy))
                rw [hpk] at HM5 ⊢
                rw [hht]
                subst hi1
                have hnt := HQ5.out.mt.mcs.len
                have hni := HQ5.out.it.ns.len
                obtain ⟨gt, rfl, hnt1, hnt2, hnt3, hgB⟩ := HQ5.out.mt.form (by omega)
                obtain ⟨gi, rfl, hni1, hni2, hni3, hgBi⟩ := HQ5.out.it.form (by have h1 := HKR.out.lens; omega)
                obtain ⟨gt', he, _, hcy⟩ := HQ5.out.mt.at_ (by omega)
                injection he with he
                injection he with he _ _
                subst he
                have hcy := hcy kf y hy
                obtain ⟨kt, hkt⟩ : ∃ a, kf * 13 = a := ⟨_, rfl⟩
                rw [hkt] at hcy
                have HLT : Hid (kf < T.length ∧ nt = T.length ∧ kf < I.length ∧ ni = I.length ∧ T.length ≤ 256) := hide ⟨hkl, hnt.1, by have h1 := HKR.out.lens; omega, hni.1, by have h1 := HKR.out.lens; have h2 := HQ.out.bag.ok.few; omega⟩
                clear hpk hht hfk hnt hni hnt1 hnt2 hnt3 hgB hni1 hni2 hni3 hgBi hy
                unfold msA
                dsimp only
                obtain ⟨X, hX⟩ : ∃ X, w5.alloc (.cells #[.int .i64 y.m.k, .int .i64 y.m.f, .int .i64 y.m.t, .int .i64 y.m.tm, .int .i64 y.m.ix, .int .i64 y.m.lt, .int .i64 y.m.cm, .int .i64 y.m.rd, .bool y.m.ys, .bool y.m.dn, .slice pe5 ne5 ce5, .slice pv5 nv5 cv5, .slice pd5 nd5 cd5] 26) = X := ⟨_, rfl⟩
                have hXb : Below w5.heap.size w5 X := by rw [← hX]; exact (Below.refl _ _).alloc (Nat.le_refl _) _
                have hXr : X.heap[w5.heap.size]? = some (.cells #[.int .i64 y.m.k, .int .i64 y.m.f, .int .i64 y.m.t, .int .i64 y.m.tm, .int .i64 y.m.ix, .int .i64 y.m.lt, .int .i64 y.m.cm, .int .i64 y.m.rd, .bool y.m.ys, .bool y.m.dn, .slice pe5 ne5 ce5, .slice pv5 nv5 cv5, .slice pd5 nd5 cd5] 26 (0, 0)) := by rw [← hX]; exact heap_alloc_new w5 _
                have HX5 := Box13.of_row hXr
                obtain ⟨bm, hbm⟩ : ∃ b, w5.heap.size = b := ⟨_, rfl⟩
                rw [hbm] at HX5
                have HQ6 := hide (HQ5.out.below hXb)
                have HSA := hide (fun V (hV : Below X.heap.size X V) => sameM_any ((HM5.out.below hXb).below hV) (HY.out.below (HQ6.out.bel.trans (hV.mono HQ6.out.bel.size))))
                unfold msA at HSA
                have hsa : ∀ V, Below X.heap.size X V → V.cell? ⟨bm, 0, none⟩ = some (.int .i64 y.m.k) ∧ V.cell? ⟨bm, 1, none⟩ = some (.int .i64 y.m.f) ∧ V.cell? ⟨bm, 2, none⟩ = some (.int .i64 y.m.t) ∧ V.cell? ⟨bm, 3, none⟩ = some (.int .i64 y.m.tm) ∧ V.cell? ⟨bm, 4, none⟩ = some (.int .i64 y.m.ix) ∧ V.cell? ⟨bm, 5, none⟩ = some (.int .i64 y.m.lt) ∧ V.cell? ⟨bm, 6, none⟩ = some (.int .i64 y.m.cm) ∧ V.cell? ⟨bm, 7, none⟩ = some (.int .i64 y.m.rd) ∧ V.cell? ⟨bm, 8, none⟩ = some (.bool y.m.ys) ∧ V.cell? ⟨bm, 9, none⟩ = some (.bool y.m.dn) ∧ V.cell? ⟨bm, 10, none⟩ = some (.slice pe5 ne5 ce5) ∧ V.cell? ⟨bm, 11, none⟩ = some (.slice pv5 nv5 cv5) ∧ V.cell? ⟨bm, 12, none⟩ = some (.slice pd5 nd5 cd5) ∧ V.cell? ⟨gt, kt, none⟩ = some (.int .i64 y.m.k) ∧ V.cell? ⟨gt, kt + 1, none⟩ = some (.int .i64 y.m.f) ∧ V.cell? ⟨gt, kt + 2, none⟩ = some (.int .i64 y.m.t) ∧ V.cell? ⟨gt, kt + 3, none⟩ = some (.int .i64 y.m.tm) ∧ V.cell? ⟨gt, kt + 4, none⟩ = some (.int .i64 y.m.ix) ∧ V.cell? ⟨gt, kt + 5, none⟩ = some (.int .i64 y.m.lt) ∧ V.cell? ⟨gt, kt + 6, none⟩ = some (.int .i64 y.m.cm) ∧ V.cell? ⟨gt, kt + 7, none⟩ = some (.int .i64 y.m.rd) ∧ V.cell? ⟨gt, kt + 8, none⟩ = some (.bool y.m.ys) ∧ V.cell? ⟨gt, kt + 9, none⟩ = some (.bool y.m.dn) ∧ V.cell? ⟨gt, kt + 10, none⟩ = some (.slice y.pe y.ne y.ce) ∧ V.cell? ⟨gt, kt + 11, none⟩ = some (.slice y.pv y.nv y.cv) ∧ V.cell? ⟨gt, kt + 12, none⟩ = some (.slice y.pd y.nd y.cd) := fun V hV => by
                  obtain ⟨b0, b1, b2, b3, b4, b5, b6, b7, b8, b9, b10, b11, b12⟩ := HX5.below hV
                  have hq : ∀ (j : Nat) u, (mcC y)[j]? = some u → V.cell? ⟨gt, kt + j, none⟩ = some u := fun j u hj => by
                    have h1 := hcy j u hj
                    have h2 := (hXb.cell (lt_of_cell h1)).trans h1
                    exact (hV.cell (lt_of_cell h2)).trans h2
                  exact ⟨b0, b1, b2, b3, b4, b5, b6, b7, b8, b9, b10, b11, b12, hq 0 _ rfl, hq 1 _ rfl, hq 2 _ rfl, hq 3 _ rfl, hq 4 _ rfl, hq 5 _ rfl, hq 6 _ rfl, hq 7 _ rfl, hq 8 _ rfl, hq 9 _ rfl, hq 10 _ rfl, hq 11 _ rfl, hq 12 _ rfl⟩
                have KEEP := hide hsa
                have j2 : (0 : Int) ≤ (kf : Int) := by omega
                have j3 : (kf : Int) < (nt : Int) := by have := HLT.out; omega
                clear hcy hXb hXr HX5 hsa hkl
                go_wp2_with fail
                refine wp_region_held_drew (S := fun V => V.cell? ⟨bm, 0, none⟩ = some (.int .i64 y.m.k) ∧ V.cell? ⟨bm, 1, none⟩ = some (.int .i64 y.m.f) ∧ V.cell? ⟨bm, 2, none⟩ = some (.int .i64 y.m.t) ∧ V.cell? ⟨bm, 3, none⟩ = some (.int .i64 y.m.tm) ∧ V.cell? ⟨bm, 4, none⟩ = some (.int .i64 y.m.ix) ∧ V.cell? ⟨bm, 5, none⟩ = some (.int .i64 y.m.lt) ∧ V.cell? ⟨bm, 6, none⟩ = some (.int .i64 y.m.cm) ∧ V.cell? ⟨bm, 7, none⟩ = some (.int .i64 y.m.rd) ∧ V.cell? ⟨bm, 8, none⟩ = some (.bool y.m.ys) ∧ V.cell? ⟨bm, 9, none⟩ = some (.bool y.m.dn) ∧ V.cell? ⟨bm, 10, none⟩ = some (.slice pe5 ne5 ce5) ∧ V.cell? ⟨bm, 11, none⟩ = some (.slice pv5 nv5 cv5) ∧ V.cell? ⟨bm, 12, none⟩ = some (.slice pd5 nd5 cd5) ∧ V.cell? ⟨gt, kt, none⟩ = some (.int .i64 y.m.k) ∧ V.cell? ⟨gt, kt + 1, none⟩ = some (.int .i64 y.m.f) ∧ V.cell? ⟨gt, kt + 2, none⟩ = some (.int .i64 y.m.t) ∧ V.cell? ⟨gt, kt + 3, none⟩ = some (.int .i64 y.m.tm) ∧ V.cell? ⟨gt, kt + 4, none⟩ = some (.int .i64 y.m.ix) ∧ V.cell? ⟨gt, kt + 5, none⟩ = some (.int .i64 y.m.lt) ∧ V.cell? ⟨gt, kt + 6, none⟩ = some (.int .i64 y.m.cm) ∧ V.cell? ⟨gt, kt + 7, none⟩ = some (.int .i64 y.m.rd) ∧ V.cell? ⟨gt, kt + 8, none⟩ = some (.bool y.m.ys) ∧ V.cell? ⟨gt, kt + 9, none⟩ = some (.bool y.m.dn) ∧ V.cell? ⟨gt, kt + 10, none⟩ = some (.slice y.pe y.ne y.ce) ∧ V.cell? ⟨gt, kt + 11, none⟩ = some (.slice y.pv y.nv y.cv) ∧ V.cell? ⟨gt, kt + 12, none⟩ = some (.slice y.pd y.nd y.cd)) (by kernel_rfl) ?_ (fun hHeld => ?_)
                · exact KEEP.out _ (bel_drewN (Below.refl _ _) 1)
                refine wpAnyH_take (i := 0) (oi := { dst := some 73, op := Op.move (Operand.tmp 11), type := 31, pos := "law.go:207", after := #[], guard := none }) (v := ?_) rfl (by kernel_rfl) (by kernel_rfl) (by kernel_rfl) (fun _ _ _ h => h) (Or.inl ⟨by rfl, ?_⟩) (by assumption) ?_
                rotate_left
                · intro w hSw
                  (try dsimp only at hSw)
                  go_simp
                  try with_reducible rfl
                try simp only [Act.put, List.setIfInBounds_toArray, List.set_cons_zero, List.set_cons_succ]
                refine wpAnyH_take (i := 1) (oi := { dst := some 74, op := Op.binOp BinOp.eql 31 (Operand.tmp 73) (Operand.const (Value.int IntKind.i64 0)) 31, type := 4, pos := "law.go:207", after := _, guard := none }) (v := ?_) rfl (by kernel_rfl) (by kernel_rfl) (by kernel_rfl) (fun _ _ _ h => h) (Or.inl ⟨by rfl, ?_⟩) (by assumption) ?_
                rotate_left
                · intro w hSw
                  (try dsimp only at hSw)
                  go_simp
                  try with_reducible rfl
                try simp only [Act.put, List.setIfInBounds_toArray, List.set_cons_zero, List.set_cons_succ]
                refine wpAnyH_take (i := 2) (oi := { dst := some 75, op := Op.move (Operand.tmp 9), type := 3, pos := "law.go:207", after := #[], guard := none }) (v := ?_) rfl (by kernel_rfl) (by kernel_rfl) (by kernel_rfl) (fun _ _ _ h => h) (Or.inl ⟨by rfl, ?_⟩) (by assumption) ?_
                rotate_left
                · intro w hSw
                  (try dsimp only at hSw)
                  go_simp
                  try with_reducible rfl
                try simp only [Act.put, List.setIfInBounds_toArray, List.set_cons_zero, List.set_cons_succ]
                refine wpAnyH_take (i := 3) (oi := { dst := some 76, op := Op.binOp BinOp.geq 3 (Operand.tmp 75) (Operand.const (Value.int IntKind.i64 0)) 3, type := 4, pos := "law.go:207", after := _, guard := none }) (v := ?_) rfl (by kernel_rfl) (by kernel_rfl) (by kernel_rfl) (fun _ _ _ h => h) (Or.inl ⟨by rfl, ?_⟩) (by assumption) ?_
                rotate_left
                · intro w hSw
                  (try dsimp only at hSw)
                  go_simp
                  try with_reducible rfl
                try simp only [Act.put, List.setIfInBounds_toArray, List.set_cons_zero, List.set_cons_succ]
                refine wpAnyH_take (i := 4) (oi := { dst := some 77, op := Op.binOp BinOp.neq 4 (Operand.tmp 74) (Operand.tmp 76) 4, type := 4, pos := "law.go:207", after := _, guard := none }) (v := ?_) rfl (by kernel_rfl) (by kernel_rfl) (by kernel_rfl) (fun _ _ _ h => h) (Or.inl ⟨by rfl, ?_⟩) (by assumption) ?_
                rotate_left
                · intro w hSw
                  (try dsimp only at hSw)
                  go_simp
                  try with_reducible rfl
                try simp only [Act.put, List.setIfInBounds_toArray, List.set_cons_zero, List.set_cons_succ]
                refine wpAnyH_take (i := 5) (oi := { dst := some 78, op := Op.move (Operand.tmp 77), type := 4, pos := "law.go:207", after := _, guard := none }) (v := ?_) rfl (by kernel_rfl) (by kernel_rfl) (by kernel_rfl) (fun _ _ _ h => h) (Or.inl ⟨by rfl, ?_⟩) (by assumption) ?_
                rotate_left
                · intro w hSw
                  (try dsimp only at hSw)
                  go_simp
                  try with_reducible rfl
                try simp only [Act.put, List.setIfInBounds_toArray, List.set_cons_zero, List.set_cons_succ]
                refine wpAnyH_take (i := 6) (oi := { dst := some 79, op := Op.move (Operand.tmp 11), type := 31, pos := "law.go:207", after := _, guard := some (5, false) }) (v := ?_) rfl (by kernel_rfl) (by kernel_rfl) (by kernel_rfl) (fun _ _ _ h => h) (Or.inl ⟨by rfl, ?_⟩) (by assumption) ?_
                rotate_left
                · intro w hSw
                  (try dsimp only at hSw)
                  go_simp
                  try with_reducible rfl
                try simp only [Act.put, List.setIfInBounds_toArray, List.set_cons_zero, List.set_cons_succ]
                refine wpAnyH_take (i := 7) (oi := { dst := some 80, op := Op.binOp BinOp.eql 31 (Operand.tmp 79) (Operand.const (Value.int IntKind.i64 0)) 31, type := 4, pos := "law.go:207", after := _, guard := some (5, false) }) (v := ?_) rfl (by kernel_rfl) (by kernel_rfl) (by kernel_rfl) (fun _ _ _ h => h) (Or.inl ⟨by rfl, ?_⟩) (by assumption) ?_
                rotate_left
                · intro w hSw
                  (try dsimp only at hSw)
                  go_simp
                  try with_reducible rfl
                try simp only [Act.put, List.setIfInBounds_toArray, List.set_cons_zero, List.set_cons_succ]
                refine wpAnyH_take (i := 8) (oi := { dst := some 81, op := Op.move (Operand.tmp 80), type := 4, pos := "law.go:207", after := _, guard := some (5, false) }) (v := ?_) rfl (by kernel_rfl) (by kernel_rfl) (by kernel_rfl) (fun _ _ _ h => h) (Or.inl ⟨by rfl, ?_⟩) (by assumption) ?_
                rotate_left
                · intro w hSw
                  (try dsimp only at hSw)
                  go_simp
                  try with_reducible rfl
                try simp only [Act.put, List.setIfInBounds_toArray, List.set_cons_zero, List.set_cons_succ]
                refine wpAnyH_take (i := 9) (oi := { dst := some 82, op := Op.load 26 (Operand.tmp 10), type := 26, pos := "law.go:207", after := _, guard := some (8, true) }) (v := ?_) rfl (by kernel_rfl) (by kernel_rfl) (by kernel_rfl) (fun _ _ _ h => h) (Or.inl ⟨by rfl, ?_⟩) (by assumption) ?_
                rotate_left
                · intro w hSw
                  (try dsimp only at hSw)
                  go_simp
                  try with_reducible rfl
                try simp only [Act.put, List.setIfInBounds_toArray, List.set_cons_zero, List.set_cons_succ]
                refine wpAnyH_take (i := 10) (oi := { dst := some 83, op := Op.move (Operand.tmp 4), type := 28, pos := "law.go:207", after := _, guard := some (8, true) }) (v := ?_) rfl (by kernel_rfl) (by kernel_rfl) (by kernel_rfl) (fun _ _ _ h => h) (Or.inl ⟨by rfl, ?_⟩) (by assumption) ?_
                rotate_left
                · intro w hSw
                  (try dsimp only at hSw)
                  go_simp
                  try with_reducible rfl
                try simp only [Act.put, List.setIfInBounds_toArray, List.set_cons_zero, List.set_cons_succ]
                refine wpAnyH_take (i := 11) (oi := { dst := some 84, op := Op.move (Operand.tmp 9), type := 3, pos := "law.go:207", after := _, guard := some (8, true) }) (v := ?_) rfl (by kernel_rfl) (by kernel_rfl) (by kernel_rfl) (fun _ _ _ h => h) (Or.inl ⟨by rfl, ?_⟩) (by assumption) ?_
                rotate_left
                · intro w hSw
                  (try dsimp only at hSw)
                  go_simp
                  try with_reducible rfl
                try simp only [Act.put, List.setIfInBounds_toArray, List.set_cons_zero, List.set_cons_succ]
                refine wpAnyH_take (i := 12) (oi := { dst := some 85, op := Op.indexAddr 28 (Operand.tmp 83) (Operand.tmp 84), type := 0, pos := "law.go:207", after := _, guard := some (8, true) }) (v := ?_) rfl (by kernel_rfl) (by kernel_rfl) (by kernel_rfl) (fun _ _ _ h => h) (Or.inl ⟨by rfl, ?_⟩) (by assumption) ?_
                rotate_left
                · intro w hSw
                  (try dsimp only at hSw)
                  go_simp
                  try with_reducible rfl
                try simp only [Act.put, List.setIfInBounds_toArray, List.set_cons_zero, List.set_cons_succ]
                refine wpAnyH_take (i := 13) (oi := { dst := some 86, op := Op.load 26 (Operand.tmp 85), type := 26, pos := "law.go:207", after := _, guard := some (8, true) }) (v := ?_) rfl (by kernel_rfl) (by kernel_rfl) (by kernel_rfl) (fun _ _ _ h => h) (Or.inl ⟨by rfl, ?_⟩) (by assumption) ?_
                rotate_left
                · intro w hSw
                  (try dsimp only at hSw)
                  go_simp
                  try with_reducible rfl
                try simp only [Act.put, List.setIfInBounds_toArray, List.set_cons_zero, List.set_cons_succ]
                refine wpAnyH_ready (rs := [14]) (by kernel_rfl) (by simp) ?_
                refine AllReadyH.cons (o := { dst := some 87, op := Op.call { callee := Callee.value (Operand.func 16), args := #[Operand.tmp 82, Operand.tmp 86], argTypes := #[26, 26] }, type := 4, pos := "law.go:207", after := _, guard := some (8, true) }) rfl (fun K hK => ?_) AllReadyH.nil
                go_simp
                go_at_call 16
                refine (HSA.out _ (by first | exact Below.refl _ _ | exact bel_drewN (Below.refl _ _) 1)).mono ?_
                rintro e7 w7 ⟨rfl, hb7⟩
                first
                  | refine hK.out _ _ ?_ (fun hHeld => ?_)
                  | (go_wp2_with fail; refine hK.out _ _ ?_ (fun hHeld => ?_))
                · exact KEEP.out _ (by first | exact hb7 | exact (bel_drewN (Below.refl _ X) 1).trans hb7)
                clear hK K
                try simp only [Act.put, List.setIfInBounds_toArray, List.set_cons_zero, List.set_cons_succ]
                refine wpAnyH_take (i := 15) (oi := { dst := some 88, op := Op.unOp UnOp.not 4 (Operand.tmp 87), type := 4, pos := "law.go:207", after := _, guard := some (8, true) }) (v := ?_) rfl (by kernel_rfl) (by kernel_rfl) (by kernel_rfl) (fun _ _ _ h => h) (Or.inl ⟨by rfl, ?_⟩) (by assumption) ?_
                rotate_left
                · intro w hSw
                  (try dsimp only at hSw)
                  go_simp
                  try with_reducible rfl
                try simp only [Act.put, List.setIfInBounds_toArray, List.set_cons_zero, List.set_cons_succ]
                refine wpAnyH_take (i := 16) (oi := { dst := some 89, op := Op.pick (Operand.tmp 81) (Operand.tmp 88) (Operand.const (Value.bool false)), type := 4, pos := "law.go:207", after := _, guard := some (5, false) }) (v := ?_) rfl (by kernel_rfl) (by kernel_rfl) (by kernel_rfl) (fun _ _ _ h => h) (Or.inl ⟨by rfl, ?_⟩) (by assumption) ?_
                rotate_left
                · intro w hSw
                  (try dsimp only at hSw)
                  go_simp
                  try with_reducible rfl
                try simp only [Act.put, List.setIfInBounds_toArray, List.set_cons_zero, List.set_cons_succ]
                refine wpAnyH_take (i := 17) (oi := { dst := some 90, op := Op.pick (Operand.tmp 78) (Operand.const (Value.bool true)) (Operand.tmp 89), type := 4, pos := "law.go:207", after := _, guard := none }) (v := ?_) rfl (by kernel_rfl) (by kernel_rfl) (by kernel_rfl) (fun _ _ _ h => h) (Or.inl ⟨by rfl, ?_⟩) (by assumption) ?_
                rotate_left
                · intro w hSw
                  (try dsimp only at hSw)
                  go_simp
                  try with_reducible rfl
                try simp only [Act.put, List.setIfInBounds_toArray, List.set_cons_zero, List.set_cons_succ]
                refine wpAnyH_done (by kernel_rfl) ?_ _
                have hb7x : Below X.heap.size X w7 := by first | exact hb7 | exact (bel_drewN (Below.refl _ X) 1).trans hb7
                have HQ7 := hide (HQ6.out.below hb7x)
                have HCM := hide (cloneM_any HQ7.out.mt.mcs (by have := HLT.out; omega))
                have hw1 : IntKind.i64.wrap ((kf : Int) + 1) = (kf : Int) + 1 := by have := HLT.out; rw [IntKind.wrap_i64]; omega
                clear hb7 hb7x KEEP HSA
                go_wp2_with fail
                refine HCM.out.mono ?_
                rintro e8 w8 ⟨pc, nc, cc, rfl, hoc, hbc⟩
                obtain ⟨gc, rfl, rfl, hnc1, hnc2, hgc⟩ := hoc.form (by have := HLT.out; omega)
                have HDM := hide (deleteM_any hoc (k := kf) (by have := HLT.out; omega) ⟨hnc1, hnc2⟩)
                have HB8 := hide hbc
                have HGC := hide (And.intro hgc (hoc.lt gc rfl).2)
                clear hoc hbc hnc1 hnc2 hgc HCM
                go_wp2_with fail
                refine HDM.out.mono ?_
                rintro e9 w9 ⟨rfl, hod, hgd⟩
                have HB9 : Hid (Below w7.heap.size w7 w9) := hide (HB8.out.grown hgd HB8.out.size fun k hk => by injection hk with hk; have := HGC.out; omega)
                have HOD := hide hod
                have HQ9 := hide (HQ7.out.below HB9.out)
                have HCN := hide (cloneN_any HQ9.out.it.ns (by have := HLT.out; have h1 := HKR.out.lens; omega))
                clear hod hgd HDM
                go_wp2_with fail
                refine HCN.out.mono ?_
                rintro e10 w10 ⟨pj, nj, cj, rfl, hoj, hbj⟩
                obtain ⟨gj, rfl, rfl, hnj1, hnj2, hgj⟩ := hoj.form (by have := HLT.out; omega)
                have HDN := hide (deleteN_any hoj (k := kf) (by have := HLT.out; omega))
                have HBJ := hide hbj
                have HGJ := hide hgj
                clear hoj hbj hnj1 hnj2 hgj HCN
                go_wp2_with fail
                refine HDN.out.mono ?_
                rintro e11 w11 ⟨rfl, hoe, hbe⟩
                have HB11 : Hid (Below w9.heap.size w9 w11) := hide (hbe _ _ HBJ.out HGJ.out)
                have HQB : Hid (Kq w w11 B2 g vb5 (.slice (some ⟨gc, 0, none⟩) (T.length - 1) cc) (.slice (some ⟨gj, 0, none⟩) (I.length - 1) cj) (loseI x id) (T.eraseIdx kf) (I.eraseIdx kf)) := hide ((HQ9.out.below HB11.out).rows ((HOD.out.mono HQ7.out.bB).below HB11.out) (hoe.mono HQ9.out.bB) fun y hy => HQ5.out.tv y (List.mem_of_mem_eraseIdx hy))
                have HL9 : Hid ((loseI x id).last ≤ ((k + 1 : Nat) : Int) * 300) := hide (by
                  have h1 : (loseI x id).last = x.last := by unfold loseI; split <;> rfl
                  have := HLA.out
                  omega)
                have hxl : x.last = (loseI x id).last := by unfold loseI; split <;> rfl
                have HXL := hide hxl
                clear hoe hbe HDN hxl hw1
                have HLS := hide (list_bag HQB.out.bag)
                have hn6 : decide (256 < ((I.length - 1 : Nat) : Int)) = false := decide_eq_false (by have h1 := HQB.out.it.ns.len.1; have h2 := HKL.out.lens.2; have h3 := HQB.out.bag.ok.few; omega)
                go_wp2_with fail
                refine HLS.out.mono ?_
                rintro e wl ⟨ul, rfl, hol, hbl⟩
                rw [← HKL.out.im] at hol
                obtain ⟨pl, nl, cl, rfl⟩ := hol.ns.sl
                have HEQ := hide (eqInts_any hol.ns (HQB.out.it.ns.below hbl))
                have HQL := hide (HQB.out.below hbl)
                clear hol hbl HLS
                go_wp2_with fail
                refine HEQ.out.mono ?_
                rintro e wm ⟨rfl, hbm⟩
                have HQM := hide (HQL.out.below hbm)
                clear hbm
                go_wp2
                go_roundw
                case rel => exact ⟨k + 1, _, (loseI x id), (T.eraseIdx kf), (I.eraseIdx kf), by omega, by go_num, (by rw [← HXL.out]), ⟨_, _, _, rfl⟩, ⟨_, _, _, rfl⟩, hide ⟨HQM.out, HKL.out, HL9.out⟩⟩
                case measure => simp [intOf]; omega
          · replace h5 : (wrap64 ((IntKind.u64.wrap op).tmod 7) == 5) = false := by simpa using h5
            by_cases h6 : (wrap64 ((IntKind.u64.wrap op).tmod 7) == 6) = true
            · have HDB := hide (double_bag HQ.out.bag id (by have := HLA.out; have := HK4.out; omega) HQ.out.bel.size)
              go_wp2_with fail
              refine HDB.out.mono ?_
              rintro e w5 ⟨rfl, vb5, hbg5, hch5, -⟩
              have HQ5 := hide (HQ.out.call hbg5 hch5)
              clear hbg5 hch5 HDB
              obtain ⟨fk, hfk⟩ : ∃ f, findI x id = f := ⟨_, rfl⟩
              cases fk with
              | none =>
                have hde : dblE x id = 130 := by unfold dblE; rw [hfk]
                have hdi : dblI x id = x := by unfold dblI; rw [hfk]
                rw [hdi] at HQ5
                rw [hde]
                have HL9 : Hid (x.last ≤ ((k + 1 : Nat) : Int) * 300) := hide (by have := HLA.out; omega)
                clear hde hdi hfk
                as_aux_lemma =>
                  have HLS := hide (list_bag HQ5.out.bag)
                  have hn6 : decide (256 < (ni : Int)) = false := decide_eq_false (by have h1 := HQ5.out.it.ns.len.1; have h2 := HKR.out.lens.2; have h3 := HQ5.out.bag.ok.few; omega)
                  go_wp2_with fail
                  refine HLS.out.mono ?_
                  rintro e wl ⟨ul, rfl, hol, hbl⟩
                  rw [← HKR.out.im] at hol
                  obtain ⟨pl, nl, cl, rfl⟩ := hol.ns.sl
                  have HEQ := hide (eqInts_any hol.ns (HQ5.out.it.ns.below hbl))
                  have HQL := hide (HQ5.out.below hbl)
                  clear hol hbl HLS
                  go_wp2_with fail
                  refine HEQ.out.mono ?_
                  rintro e wm ⟨rfl, hbm⟩
                  have HQM := hide (HQL.out.below hbm)
                  clear hbm
                  go_wp2
                  go_roundw
                  case rel => exact ⟨k + 1, _, x, T, I, by omega, by go_num, rfl, ⟨_, _, _, rfl⟩, ⟨_, _, _, rfl⟩, hide ⟨HQM.out, HKR.out, HL9.out⟩⟩
                  case measure => simp [intOf]; omega
              | some kf =>
                by_cases hfu : fullB x = true
                · have hde : dblE x id = 7 := by unfold dblE; rw [hfk]; dsimp only; rw [if_pos hfu]
                  have hdi : dblI x id = x := by unfold dblI; rw [hfk]; dsimp only; rw [if_pos hfu]
                  rw [hdi] at HQ5
                  rw [hde]
                  have HL9 : Hid (x.last ≤ ((k + 1 : Nat) : Int) * 300) := hide (by have := HLA.out; omega)
                  clear hde hdi hfk hfu
                  as_aux_lemma =>
                    have HLS := hide (list_bag HQ5.out.bag)
                    have hn6 : decide (256 < (ni : Int)) = false := decide_eq_false (by have h1 := HQ5.out.it.ns.len.1; have h2 := HKR.out.lens.2; have h3 := HQ5.out.bag.ok.few; omega)
                    go_wp2_with fail
                    refine HLS.out.mono ?_
                    rintro e wl ⟨ul, rfl, hol, hbl⟩
                    rw [← HKR.out.im] at hol
                    obtain ⟨pl, nl, cl, rfl⟩ := hol.ns.sl
                    have HEQ := hide (eqInts_any hol.ns (HQ5.out.it.ns.below hbl))
                    have HQL := hide (HQ5.out.below hbl)
                    clear hol hbl HLS
                    go_wp2_with fail
                    refine HEQ.out.mono ?_
                    rintro e wm ⟨rfl, hbm⟩
                    have HQM := hide (HQL.out.below hbm)
                    clear hbm
                    go_wp2
                    go_roundw
                    case rel => exact ⟨k + 1, _, x, T, I, by omega, by go_num, rfl, ⟨_, _, _, rfl⟩, ⟨_, _, _, rfl⟩, hide ⟨HQM.out, HKR.out, HL9.out⟩⟩
                    case measure => simp [intOf]; omega
                · obtain ⟨y, hy⟩ : ∃ y, T[kf]? = some y := ⟨_, List.getElem?_eq_getElem (by have := HKR.out.lens.1; have := findI_lt hfk; omega)⟩
                  obtain ⟨pp, hpp, hpy⟩ := HKR.out.get hy
                  have hde : dblE x id = 0 := by unfold dblE; rw [hfk]; dsimp only; rw [if_neg hfu]
                  have hdi : dblI x id = ⟨x.last + 1, x.ps ++ [(x.last + 1, y.m)]⟩ := by unfold dblI; rw [hfk]; dsimp only; rw [if_neg hfu, hpp]; dsimp only; rw [hpy]
                  have hi1 : iv = (kf : Int) := by have h := HXI.out; rw [hfk] at h; exact h
                  have hkl := (List.getElem?_eq_some_iff.1 hy).1
                  have HY := hide (HQ5.out.tv y (List.mem_of_getElem? hy))
                  rw [hdi] at HQ5
                  rw [hde]
                  subst hi1
                  have hnt := HQ5.out.mt.mcs.len
                  obtain ⟨gt, rfl, hnt1, hnt2, hnt3, hgB⟩ := HQ5.out.mt.form (by omega)
                  obtain ⟨gt', he, _, hcy⟩ := HQ5.out.mt.at_ (by omega)
                  injection he with he
                  injection he with he _ _
                  subst he
                  have hcy := hcy kf y hy
                  obtain ⟨kt, hkt⟩ : ∃ a, kf * 13 = a := ⟨_, rfl⟩
                  rw [hkt] at hcy
                  have HTL : Hid (T.length ≤ 256 ∧ I.length ≤ 256 ∧ kf < nt) := hide ⟨by have h1 := HKR.out.lens; have h2 := HQ.out.bag.ok.few; omega, by have h1 := HKR.out.lens; have h2 := HQ.out.bag.ok.few; omega, by omega⟩
                  have hl0 := HQ.out.bag.ok.l0
                  have HL9 : Hid (x.last + 1 ≤ ((k + 1 : Nat) : Int) * 300) := hide (by have := HLA.out; omega)
                  have hw1 : IntKind.i64.wrap (x.last + 1) = x.last + 1 := by have := HLA.out; have := HK4.out; rw [IntKind.wrap_i64]; omega
                  have HFL : Hid (fits (x.last + 1)) := hide (by unfold fits; have := HLA.out; have := HK4.out; omega)
                  have HCL := hide (fun V (hV : Below w5.heap.size w5 V) => cloneM_any (HQ5.out.mt.mcs.below hV) (by have := HTL.out; omega))
                  have HCI := hide (fun V (hV : Below w5.heap.size w5 V) => cloneN_any (HQ5.out.it.ns.below hV) (by have := HTL.out; omega))
                  have hsa : ∀ V, Below w5.heap.size w5 V → V.cell? ⟨gt, kt, none⟩ = some (.int .i64 y.m.k) ∧ V.cell? ⟨gt, kt + 1, none⟩ = some (.int .i64 y.m.f) ∧ V.cell? ⟨gt, kt + 2, none⟩ = some (.int .i64 y.m.t) ∧ V.cell? ⟨gt, kt + 3, none⟩ = some (.int .i64 y.m.tm) ∧ V.cell? ⟨gt, kt + 4, none⟩ = some (.int .i64 y.m.ix) ∧ V.cell? ⟨gt, kt + 5, none⟩ = some (.int .i64 y.m.lt) ∧ V.cell? ⟨gt, kt + 6, none⟩ = some (.int .i64 y.m.cm) ∧ V.cell? ⟨gt, kt + 7, none⟩ = some (.int .i64 y.m.rd) ∧ V.cell? ⟨gt, kt + 8, none⟩ = some (.bool y.m.ys) ∧ V.cell? ⟨gt, kt + 9, none⟩ = some (.bool y.m.dn) ∧ V.cell? ⟨gt, kt + 10, none⟩ = some (.slice y.pe y.ne y.ce) ∧ V.cell? ⟨gt, kt + 11, none⟩ = some (.slice y.pv y.nv y.cv) ∧ V.cell? ⟨gt, kt + 12, none⟩ = some (.slice y.pd y.nd y.cd) := fun V hV => by
                    have hq : ∀ (j : Nat) u, (mcC y)[j]? = some u → V.cell? ⟨gt, kt + j, none⟩ = some u := fun j u hj => by
                      have h1 := hcy j u hj
                      exact (hV.cell (lt_of_cell h1)).trans h1
                    exact ⟨hq 0 _ rfl, hq 1 _ rfl, hq 2 _ rfl, hq 3 _ rfl, hq 4 _ rfl, hq 5 _ rfl, hq 6 _ rfl, hq 7 _ rfl, hq 8 _ rfl, hq 9 _ rfl, hq 10 _ rfl, hq 11 _ rfl, hq 12 _ rfl⟩
                  have KEEP := hide hsa
                  have j2 : (0 : Int) ≤ (kf : Int) := by omega
                  have j3 : (kf : Int) < (nt : Int) := by have := HTL.out; omega
                  obtain ⟨la1, hla1⟩ : ∃ a, x.last + 1 = a := ⟨_, rfl⟩
                  rw [hla1] at hw1 HFL
                  have HLA1 := hide hla1
                  clear hde hdi hfk hfu hpp hpy hkl hnt hnt1 hnt2 hnt3 hgB hcy hsa hy hl0
                  go_wp2_with fail
                  refine wp_region_held_drew (S := fun V => V.cell? ⟨gt, kt, none⟩ = some (.int .i64 y.m.k) ∧ V.cell? ⟨gt, kt + 1, none⟩ = some (.int .i64 y.m.f) ∧ V.cell? ⟨gt, kt + 2, none⟩ = some (.int .i64 y.m.t) ∧ V.cell? ⟨gt, kt + 3, none⟩ = some (.int .i64 y.m.tm) ∧ V.cell? ⟨gt, kt + 4, none⟩ = some (.int .i64 y.m.ix) ∧ V.cell? ⟨gt, kt + 5, none⟩ = some (.int .i64 y.m.lt) ∧ V.cell? ⟨gt, kt + 6, none⟩ = some (.int .i64 y.m.cm) ∧ V.cell? ⟨gt, kt + 7, none⟩ = some (.int .i64 y.m.rd) ∧ V.cell? ⟨gt, kt + 8, none⟩ = some (.bool y.m.ys) ∧ V.cell? ⟨gt, kt + 9, none⟩ = some (.bool y.m.dn) ∧ V.cell? ⟨gt, kt + 10, none⟩ = some (.slice y.pe y.ne y.ce) ∧ V.cell? ⟨gt, kt + 11, none⟩ = some (.slice y.pv y.nv y.cv) ∧ V.cell? ⟨gt, kt + 12, none⟩ = some (.slice y.pd y.nd y.cd)) (by kernel_rfl) ?_ (fun hHeld => ?_)
                  · exact KEEP.out _ (bel_drewN (Below.refl _ _) 1)
                  refine wpAnyH_take (i := 0) (oi := { dst := some 114, op := Op.move (Operand.tmp 4), type := 28, pos := "law.go:216", after := #[], guard := none }) (v := ?_) rfl (by kernel_rfl) (by kernel_rfl) (by kernel_rfl) (fun _ _ _ h => h) (Or.inl ⟨by rfl, ?_⟩) (by assumption) ?_
                  rotate_left
                  · intro w hSw
                    (try dsimp only at hSw)
                    go_simp
                    try with_reducible rfl
                  try simp only [Act.put, List.setIfInBounds_toArray, List.set_cons_zero, List.set_cons_succ]
                  refine wpAnyH_take (i := 2) (oi := { dst := some 116, op := Op.move (Operand.tmp 4), type := 28, pos := "law.go:216", after := #[], guard := none }) (v := ?_) rfl (by kernel_rfl) (by kernel_rfl) (by kernel_rfl) (fun _ _ _ h => h) (Or.inl ⟨by rfl, ?_⟩) (by assumption) ?_
                  rotate_left
                  · intro w hSw
                    (try dsimp only at hSw)
                    go_simp
                    try with_reducible rfl
                  try simp only [Act.put, List.setIfInBounds_toArray, List.set_cons_zero, List.set_cons_succ]
                  refine wpAnyH_take (i := 3) (oi := { dst := some 117, op := Op.move (Operand.tmp 9), type := 3, pos := "law.go:216", after := #[], guard := none }) (v := ?_) rfl (by kernel_rfl) (by kernel_rfl) (by kernel_rfl) (fun _ _ _ h => h) (Or.inl ⟨by rfl, ?_⟩) (by assumption) ?_
                  rotate_left
                  · intro w hSw
                    (try dsimp only at hSw)
                    go_simp
                    try with_reducible rfl
                  try simp only [Act.put, List.setIfInBounds_toArray, List.set_cons_zero, List.set_cons_succ]
                  refine wpAnyH_take (i := 4) (oi := { dst := some 118, op := Op.indexAddr 28 (Operand.tmp 116) (Operand.tmp 117), type := 0, pos := "law.go:216", after := _, guard := none }) (v := ?_) rfl (by kernel_rfl) (by kernel_rfl) (by kernel_rfl) (fun _ _ _ h => h) (Or.inl ⟨by rfl, ?_⟩) (by assumption) ?_
                  rotate_left
                  · intro w hSw
                    (try dsimp only at hSw)
                    go_simp
                    try with_reducible rfl
                  try simp only [Act.put, List.setIfInBounds_toArray, List.set_cons_zero, List.set_cons_succ]
                  refine wpAnyH_take (i := 5) (oi := { dst := some 119, op := Op.load 26 (Operand.tmp 118), type := 26, pos := "law.go:216", after := _, guard := none }) (v := ?_) rfl (by kernel_rfl) (by kernel_rfl) (by kernel_rfl) (fun _ _ _ h => h) (Or.inl ⟨by rfl, ?_⟩) (by assumption) ?_
                  rotate_left
                  · intro w hSw
                    (try dsimp only at hSw)
                    go_simp
                    try with_reducible rfl
                  try simp only [Act.put, List.setIfInBounds_toArray, List.set_cons_zero, List.set_cons_succ]
                  refine wpAnyH_take (i := 8) (oi := { dst := some 122, op := Op.move (Operand.tmp 5), type := 23, pos := "law.go:216", after := #[], guard := none }) (v := ?_) rfl (by kernel_rfl) (by kernel_rfl) (by kernel_rfl) (fun _ _ _ h => h) (Or.inl ⟨by rfl, ?_⟩) (by assumption) ?_
                  rotate_left
                  · intro w hSw
                    (try dsimp only at hSw)
                    go_simp
                    try with_reducible rfl
                  try simp only [Act.put, List.setIfInBounds_toArray, List.set_cons_zero, List.set_cons_succ]
                  refine wpAnyH_take (i := 10) (oi := { dst := some 124, op := Op.move (Operand.tmp 6), type := 3, pos := "law.go:216", after := #[], guard := none }) (v := ?_) rfl (by kernel_rfl) (by kernel_rfl) (by kernel_rfl) (fun _ _ _ h => h) (Or.inl ⟨by rfl, ?_⟩) (by assumption) ?_
                  rotate_left
                  · intro w hSw
                    (try dsimp only at hSw)
                    go_simp
                    try with_reducible rfl
                  try simp only [Act.put, List.setIfInBounds_toArray, List.set_cons_zero, List.set_cons_succ]
                  refine wpAnyH_ready (rs := [1, 6, 11]) (by kernel_rfl) (by simp) ?_
                  refine AllReadyH.cons (o := { dst := some 115, op := Op.call { callee := Callee.value (Operand.func 37), args := #[Operand.tmp 114], argTypes := #[28] }, type := 28, pos := "law.go:216", after := _, guard := none }) rfl (fun K hK => ?_) ?_
                  · go_simp
                    refine (HCL.out _ (bel_drewN (Below.refl w5.heap.size w5) 1)).mono ?_
                    rintro eC wC ⟨pC, nC, cC, rfl, hoC, hbC⟩
                    have HB1 : Hid (Below w5.heap.size w5 wC) := hide ((bel_drewN (Below.refl w5.heap.size w5) 1).trans (hbC.mono (bel_drewN (Below.refl w5.heap.size w5) 1).size))
                    have HC := hide (hoC.mono (bel_drewN (Below.refl w5.heap.size w5) 1).size)
                    clear hoC hbC
                    first
                      | refine hK.out _ _ ?_ (fun hHeld => ?_)
                      | (go_wp2_with fail; refine hK.out _ _ ?_ (fun hHeld => ?_))
                    · exact KEEP.out _ HB1.out
                    clear hK K
                    try simp only [Act.put, List.setIfInBounds_toArray, List.set_cons_zero, List.set_cons_succ]
                    refine wpAnyH_ready (rs := [6, 11]) (by kernel_rfl) (by simp) ?_
                    refine AllReadyH.cons (o := { dst := some 120, op := Op.buildSlice 28 1 #[(0, Operand.tmp 119)], type := 28, pos := "law.go:216", after := _, guard := none }) rfl (fun K hK => ?_) ?_
                    · have HB6 : Hid (Below w5.heap.size w5 (wC.alloc (objY y))) := hide (HB1.out.trans ((bel_al wC (objY y)).mono HB1.out.size))
                      have HC := hide (HC.out.below (bel_al wC (objY y)))
                      have HM : Hid (Mcs (wC.alloc (objY y)) (.slice (some ⟨wC.heap.size, 0, none⟩) 1 1) [y]) := hide (by have h := mcs_lit wC y; first | exact h | (simp only [size_alloc'] at h; exact h))
                      go_simp
                      first
                        | refine hK.out _ _ ?_ (fun hHeld => ?_)
                        | (go_wp2_with fail; refine hK.out _ _ ?_ (fun hHeld => ?_))
                      · exact KEEP.out _ HB6.out
                      clear hK K
                      try simp only [Act.put, List.setIfInBounds_toArray, List.set_cons_zero, List.set_cons_succ]
                      refine wpAnyH_ready (rs := [7, 11]) (by kernel_rfl) (by simp) ?_
                      refine AllReadyH.cons (o := { dst := some 121, op := Op.call { callee := Callee.builtin Builtin.append, args := #[Operand.tmp 115, Operand.tmp 120], argTypes := #[28, 28] }, type := 28, pos := "law.go:216", after := _, guard := none }) rfl (fun K hK => ?_) ?_
                      · refine step_pushesM (by rfl) _ _ (by rfl) (by rfl) (by rfl) (by rfl) HC.out HM.out (HB6.out.size) (by have := HTL.out; simp; omega) ?_
                        intro vA wA hoA hbA hgA
                        obtain ⟨pA, nA, cA, rfl⟩ := hoA.mcs.sl
                        have HB7 : Hid (Below w5.heap.size w5 wA) := hide (HB6.out.grown hgA HB6.out.size fun k hk => (HC.out.lt k hk).1)
                        have HA := hide hoA
                        clear hoA hbA hgA
                        first
                          | refine hK.out _ _ ?_ (fun hHeld => ?_)
                          | (go_wp2_with fail; refine hK.out _ _ ?_ (fun hHeld => ?_))
                        · exact KEEP.out _ HB7.out
                        clear hK K
                        try simp only [Act.put, List.setIfInBounds_toArray, List.set_cons_zero, List.set_cons_succ]
                        refine wpAnyH_ready (rs := [9, 11]) (by kernel_rfl) (by simp) ?_
                        refine AllReadyH.cons (o := { dst := some 123, op := Op.call { callee := Callee.value (Operand.func 39), args := #[Operand.tmp 122], argTypes := #[23] }, type := 23, pos := "law.go:216", after := _, guard := none }) rfl (fun K hK => ?_) ?_
                        · go_simp
                          refine (HCI.out _ HB7.out).mono ?_
                          rintro eN wN ⟨pN, nN, cN, rfl, hoN, hbN⟩
                          have HB9 : Hid (Below w5.heap.size w5 wN) := hide (HB7.out.trans (hbN.mono HB7.out.size))
                          have HA := hide (HA.out.below hbN)
                          have HN := hide (hoN.mono HB7.out.size)
                          clear hoN hbN
                          first
                            | refine hK.out _ _ ?_ (fun hHeld => ?_)
                            | (go_wp2_with fail; refine hK.out _ _ ?_ (fun hHeld => ?_))
                          · exact KEEP.out _ HB9.out
                          clear hK K
                          try simp only [Act.put, List.setIfInBounds_toArray, List.set_cons_zero, List.set_cons_succ]
                          refine wpAnyH_ready (rs := [11]) (by kernel_rfl) (by simp) ?_
                          refine AllReadyH.cons (o := { dst := some 125, op := Op.buildSlice 23 1 #[(0, Operand.tmp 124)], type := 23, pos := "law.go:216", after := _, guard := none }) rfl (fun K hK => ?_) AllReadyH.nil
                          have HB11 : Hid (Below w5.heap.size w5 (wN.alloc (.cells #[.int .i64 la1] 3))) := hide (HB9.out.trans ((bel_al wN (.cells #[.int .i64 la1] 3)).mono HB9.out.size))
                          have HA := hide (HA.out.below (bel_al wN (.cells #[.int .i64 la1] 3)))
                          have HN := hide (HN.out.below (bel_al wN (.cells #[.int .i64 la1] 3)))
                          have HL : Hid (OwnN 0 (wN.alloc (.cells #[.int .i64 la1] 3)) (.slice (some ⟨wN.heap.size, 0, none⟩) 1 1) [la1]) := hide (by have h := ownN_lit wN la1 HFL.out; first | exact h | (simp only [size_alloc'] at h; exact h))
                          go_simp
                          first
                            | refine hK.out _ _ ?_ (fun hHeld => ?_)
                            | (go_wp2_with fail; refine hK.out _ _ ?_ (fun hHeld => ?_))
                          · exact KEEP.out _ HB11.out
                          clear hK K
                          try simp only [Act.put, List.setIfInBounds_toArray, List.set_cons_zero, List.set_cons_succ]
                          refine wpAnyH_ready (rs := [12]) (by kernel_rfl) (by simp) ?_
                          refine AllReadyH.cons (o := { dst := some 126, op := Op.call { callee := Callee.builtin Builtin.append, args := #[Operand.tmp 123, Operand.tmp 125], argTypes := #[23, 23] }, type := 23, pos := "law.go:216", after := _, guard := none }) rfl (fun K hK => ?_) AllReadyH.nil
                          refine step_pushN_at (by rfl) _ _ (by rfl) (by rfl) la1 (by rfl) (by rfl) HL.out.lit_cell HN.out HFL.out (HB11.out.size) (by have := HTL.out; omega) ?_
                          intro vZ wZ hoZ hgZ hbZ
                          obtain ⟨pZ, nZ, cZ, rfl⟩ := hoZ.ns.sl
                          have HB12 : Hid (Below w5.heap.size w5 wZ) := hide (HB11.out.grown hgZ HB11.out.size fun k hk => (HN.out.lt k hk).1)
                          have HA := hide (HA.out.grown' HN.out hgZ)
                          have HZ9 := hide hoZ
                          clear hoZ hbZ hgZ
                          first
                            | refine hK.out _ _ ?_ (fun hHeld => ?_)
                            | (go_wp2_with fail; refine hK.out _ _ ?_ (fun hHeld => ?_))
                          · exact KEEP.out _ HB12.out
                          clear hK K
                          try simp only [Act.put, List.setIfInBounds_toArray, List.set_cons_zero, List.set_cons_succ]
                          refine wpAnyH_take (i := 13) (oi := { dst := some 4, op := Op.assign (Operand.tmp 121), type := 28, pos := "law.go:216", after := _, guard := none }) (v := ?_) rfl (by kernel_rfl) (by kernel_rfl) (by kernel_rfl) (fun _ _ _ h => h) (Or.inl ⟨by rfl, ?_⟩) (by assumption) ?_
                          rotate_left
                          · intro w hSw
                            (try dsimp only at hSw)
                            go_simp
                            try with_reducible rfl
                          try simp only [Act.put, List.setIfInBounds_toArray, List.set_cons_zero, List.set_cons_succ]
                          refine wpAnyH_take (i := 14) (oi := { dst := some 5, op := Op.assign (Operand.tmp 126), type := 23, pos := "law.go:216", after := _, guard := none }) (v := ?_) rfl (by kernel_rfl) (by kernel_rfl) (by kernel_rfl) (fun _ _ _ h => h) (Or.inl ⟨by rfl, ?_⟩) (by assumption) ?_
                          rotate_left
                          · intro w hSw
                            (try dsimp only at hSw)
                            go_simp
                            try with_reducible rfl
                          try simp only [Act.put, List.setIfInBounds_toArray, List.set_cons_zero, List.set_cons_succ]
                          refine wpAnyH_done (by kernel_rfl) ?_ _
                          have HQZ : Hid (Kq w wZ B2 g vb5 (.slice pA nA cA) (.slice pZ nZ cZ) ⟨x.last + 1, x.ps ++ [(x.last + 1, y.m)]⟩ (T ++ [y]) (I ++ [x.last + 1])) := hide ((HQ5.out.below HB12.out).rows (HA.out.mono HQ5.out.bB) (by have h := HZ9.out.mono HQ5.out.bB; rw [← HLA1.out] at h; exact h) fun z hz => by
                            rcases List.mem_append.1 hz with hz | hz
                            · exact HQ5.out.tv z hz
                            · simp at hz; subst hz; exact HY.out)
                          have HKZ := hide (HKR.out.add y)
                          clear HA HZ9 HB12
                          have HLS := hide (list_bag HQZ.out.bag)
                          have hn6 : decide (256 < (nZ : Int)) = false := decide_eq_false (by have h1 := HQZ.out.it.ns.len.1; have h2 := HKZ.out.lens.2; have h3 := HQZ.out.bag.ok.few; omega)
                          go_wp2_with fail
                          refine HLS.out.mono ?_
                          rintro e wl ⟨ul, rfl, hol, hbl⟩
                          rw [← HKZ.out.im] at hol
                          obtain ⟨pl, nl, cl, rfl⟩ := hol.ns.sl
                          have HEQ := hide (eqInts_any hol.ns (HQZ.out.it.ns.below hbl))
                          have HQL := hide (HQZ.out.below hbl)
                          clear hol hbl HLS
                          go_wp2_with fail
                          refine HEQ.out.mono ?_
                          rintro e wm ⟨rfl, hbm⟩
                          have HQM := hide (HQL.out.below hbm)
                          clear hbm
                          go_wp2
                          go_roundw
                          case rel => exact ⟨k + 1, _, ⟨x.last + 1, x.ps ++ [(x.last + 1, y.m)]⟩, (T ++ [y]), (I ++ [x.last + 1]), by omega, by go_num, (by rw [← HLA1.out]), ⟨_, _, _, rfl⟩, ⟨_, _, _, rfl⟩, hide ⟨HQM.out, HKZ.out, HL9.out⟩⟩
                          case measure => simp [intOf]; omega
                        refine AllReadyH.cons (o := { dst := some 125, op := Op.buildSlice 23 1 #[(0, Operand.tmp 124)], type := 23, pos := "law.go:216", after := _, guard := none }) rfl (fun K hK => ?_) AllReadyH.nil
                        have HB11 : Hid (Below w5.heap.size w5 (wA.alloc (.cells #[.int .i64 la1] 3))) := hide (HB7.out.trans ((bel_al wA (.cells #[.int .i64 la1] 3)).mono HB7.out.size))
                        have HA := hide (HA.out.below (bel_al wA (.cells #[.int .i64 la1] 3)))
                        have HL : Hid (OwnN 0 (wA.alloc (.cells #[.int .i64 la1] 3)) (.slice (some ⟨wA.heap.size, 0, none⟩) 1 1) [la1]) := hide (by have h := ownN_lit wA la1 HFL.out; first | exact h | (simp only [size_alloc'] at h; exact h))
                        go_simp
                        first
                          | refine hK.out _ _ ?_ (fun hHeld => ?_)
                          | (go_wp2_with fail; refine hK.out _ _ ?_ (fun hHeld => ?_))
                        · exact KEEP.out _ HB11.out
                        clear hK K
                        try simp only [Act.put, List.setIfInBounds_toArray, List.set_cons_zero, List.set_cons_succ]
                        refine wpAnyH_ready (rs := [9]) (by kernel_rfl) (by simp) ?_
                        refine AllReadyH.cons (o := { dst := some 123, op := Op.call { callee := Callee.value (Operand.func 39), args := #[Operand.tmp 122], argTypes := #[23] }, type := 23, pos := "law.go:216", after := _, guard := none }) rfl (fun K hK => ?_) AllReadyH.nil
                        go_simp
                        refine (HCI.out _ HB11.out).mono ?_
                        rintro eN wN ⟨pN, nN, cN, rfl, hoN, hbN⟩
                        have HB9 : Hid (Below w5.heap.size w5 wN) := hide (HB11.out.trans (hbN.mono HB11.out.size))
                        have HA := hide (HA.out.below hbN)
                        have HL := hide (HL.out.below hbN)
                        have HN := hide (hoN.mono HB11.out.size)
                        clear hoN hbN
                        first
                          | refine hK.out _ _ ?_ (fun hHeld => ?_)
                          | (go_wp2_with fail; refine hK.out _ _ ?_ (fun hHeld => ?_))
                        · exact KEEP.out _ HB9.out
                        clear hK K
                        try simp only [Act.put, List.setIfInBounds_toArray, List.set_cons_zero, List.set_cons_succ]
                        refine wpAnyH_ready (rs := [12]) (by kernel_rfl) (by simp) ?_
                        refine AllReadyH.cons (o := { dst := some 126, op := Op.call { callee := Callee.builtin Builtin.append, args := #[Operand.tmp 123, Operand.tmp 125], argTypes := #[23, 23] }, type := 23, pos := "law.go:216", after := _, guard := none }) rfl (fun K hK => ?_) AllReadyH.nil
                        refine step_pushN_at (by rfl) _ _ (by rfl) (by rfl) la1 (by rfl) (by rfl) HL.out.lit_cell HN.out HFL.out (HB9.out.size) (by have := HTL.out; omega) ?_
                        intro vZ wZ hoZ hgZ hbZ
                        obtain ⟨pZ, nZ, cZ, rfl⟩ := hoZ.ns.sl
                        have HB12 : Hid (Below w5.heap.size w5 wZ) := hide (HB9.out.grown hgZ HB9.out.size fun k hk => (HN.out.lt k hk).1)
                        have HA := hide (HA.out.grown' HN.out hgZ)
                        have HZ9 := hide hoZ
                        clear hoZ hbZ hgZ
                        first
                          | refine hK.out _ _ ?_ (fun hHeld => ?_)
                          | (go_wp2_with fail; refine hK.out _ _ ?_ (fun hHeld => ?_))
                        · exact KEEP.out _ HB12.out
                        clear hK K
                        try simp only [Act.put, List.setIfInBounds_toArray, List.set_cons_zero, List.set_cons_succ]
                        refine wpAnyH_take (i := 13) (oi := { dst := some 4, op := Op.assign (Operand.tmp 121), type := 28, pos := "law.go:216", after := _, guard := none }) (v := ?_) rfl (by kernel_rfl) (by kernel_rfl) (by kernel_rfl) (fun _ _ _ h => h) (Or.inl ⟨by rfl, ?_⟩) (by assumption) ?_
                        rotate_left
                        · intro w hSw
                          (try dsimp only at hSw)
                          go_simp
                          try with_reducible rfl
                        try simp only [Act.put, List.setIfInBounds_toArray, List.set_cons_zero, List.set_cons_succ]
                        refine wpAnyH_take (i := 14) (oi := { dst := some 5, op := Op.assign (Operand.tmp 126), type := 23, pos := "law.go:216", after := _, guard := none }) (v := ?_) rfl (by kernel_rfl) (by kernel_rfl) (by kernel_rfl) (fun _ _ _ h => h) (Or.inl ⟨by rfl, ?_⟩) (by assumption) ?_
                        rotate_left
                        · intro w hSw
                          (try dsimp only at hSw)
                          go_simp
                          try with_reducible rfl
                        try simp only [Act.put, List.setIfInBounds_toArray, List.set_cons_zero, List.set_cons_succ]
                        refine wpAnyH_done (by kernel_rfl) ?_ _
                        have HQZ : Hid (Kq w wZ B2 g vb5 (.slice pA nA cA) (.slice pZ nZ cZ) ⟨x.last + 1, x.ps ++ [(x.last + 1, y.m)]⟩ (T ++ [y]) (I ++ [x.last + 1])) := hide ((HQ5.out.below HB12.out).rows (HA.out.mono HQ5.out.bB) (by have h := HZ9.out.mono HQ5.out.bB; rw [← HLA1.out] at h; exact h) fun z hz => by
                          rcases List.mem_append.1 hz with hz | hz
                          · exact HQ5.out.tv z hz
                          · simp at hz; subst hz; exact HY.out)
                        have HKZ := hide (HKR.out.add y)
                        clear HA HZ9 HB12
                        have HLS := hide (list_bag HQZ.out.bag)
                        have hn6 : decide (256 < (nZ : Int)) = false := decide_eq_false (by have h1 := HQZ.out.it.ns.len.1; have h2 := HKZ.out.lens.2; have h3 := HQZ.out.bag.ok.few; omega)
                        go_wp2_with fail
                        refine HLS.out.mono ?_
                        rintro e wl ⟨ul, rfl, hol, hbl⟩
                        rw [← HKZ.out.im] at hol
                        obtain ⟨pl, nl, cl, rfl⟩ := hol.ns.sl
                        have HEQ := hide (eqInts_any hol.ns (HQZ.out.it.ns.below hbl))
                        have HQL := hide (HQZ.out.below hbl)
                        clear hol hbl HLS
                        go_wp2_with fail
                        refine HEQ.out.mono ?_
                        rintro e wm ⟨rfl, hbm⟩
                        have HQM := hide (HQL.out.below hbm)
                        clear hbm
                        go_wp2
                        go_roundw
                        case rel => exact ⟨k + 1, _, ⟨x.last + 1, x.ps ++ [(x.last + 1, y.m)]⟩, (T ++ [y]), (I ++ [x.last + 1]), by omega, by go_num, (by rw [← HLA1.out]), ⟨_, _, _, rfl⟩, ⟨_, _, _, rfl⟩, hide ⟨HQM.out, HKZ.out, HL9.out⟩⟩
                        case measure => simp [intOf]; omega
                      refine AllReadyH.cons (o := { dst := some 125, op := Op.buildSlice 23 1 #[(0, Operand.tmp 124)], type := 23, pos := "law.go:216", after := _, guard := none }) rfl (fun K hK => ?_) AllReadyH.nil
                      have HB11 : Hid (Below w5.heap.size w5 ((wC.alloc (objY y)).alloc (.cells #[.int .i64 la1] 3))) := hide (HB6.out.trans ((bel_al (wC.alloc (objY y)) (.cells #[.int .i64 la1] 3)).mono HB6.out.size))
                      have HC := hide (HC.out.below (bel_al (wC.alloc (objY y)) (.cells #[.int .i64 la1] 3)))
                      have HM := hide (HM.out.below (bel_al (wC.alloc (objY y)) (.cells #[.int .i64 la1] 3)))
                      have HL : Hid (OwnN 0 ((wC.alloc (objY y)).alloc (.cells #[.int .i64 la1] 3)) (.slice (some ⟨wC.heap.size + 1, 0, none⟩) 1 1) [la1]) := hide (by have h := ownN_lit (wC.alloc (objY y)) la1 HFL.out; first | exact h | (simp only [size_alloc'] at h; exact h))
                      go_simp
                      first
                        | refine hK.out _ _ ?_ (fun hHeld => ?_)
                        | (go_wp2_with fail; refine hK.out _ _ ?_ (fun hHeld => ?_))
                      · exact KEEP.out _ HB11.out
                      clear hK K
                      try simp only [Act.put, List.setIfInBounds_toArray, List.set_cons_zero, List.set_cons_succ]
                      refine wpAnyH_ready (rs := [7]) (by kernel_rfl) (by simp) ?_
                      refine AllReadyH.cons (o := { dst := some 121, op := Op.call { callee := Callee.builtin Builtin.append, args := #[Operand.tmp 115, Operand.tmp 120], argTypes := #[28, 28] }, type := 28, pos := "law.go:216", after := _, guard := none }) rfl (fun K hK => ?_) AllReadyH.nil
                      refine step_pushesM (by rfl) _ _ (by rfl) (by rfl) (by rfl) (by rfl) HC.out HM.out (HB11.out.size) (by have := HTL.out; simp; omega) ?_
                      intro vA wA hoA hbA hgA
                      obtain ⟨pA, nA, cA, rfl⟩ := hoA.mcs.sl
                      have HB7 : Hid (Below w5.heap.size w5 wA) := hide (HB11.out.grown hgA HB11.out.size fun k hk => (HC.out.lt k hk).1)
                      have HL := hide (HL.out.grown' HC.out hgA)
                      have HA := hide hoA
                      clear hoA hbA hgA
                      first
                        | refine hK.out _ _ ?_ (fun hHeld => ?_)
                        | (go_wp2_with fail; refine hK.out _ _ ?_ (fun hHeld => ?_))
                      · exact KEEP.out _ HB7.out
                      clear hK K
                      try simp only [Act.put, List.setIfInBounds_toArray, List.set_cons_zero, List.set_cons_succ]
                      refine wpAnyH_ready (rs := [9]) (by kernel_rfl) (by simp) ?_
                      refine AllReadyH.cons (o := { dst := some 123, op := Op.call { callee := Callee.value (Operand.func 39), args := #[Operand.tmp 122], argTypes := #[23] }, type := 23, pos := "law.go:216", after := _, guard := none }) rfl (fun K hK => ?_) AllReadyH.nil
                      go_simp
                      refine (HCI.out _ HB7.out).mono ?_
                      rintro eN wN ⟨pN, nN, cN, rfl, hoN, hbN⟩
                      have HB9 : Hid (Below w5.heap.size w5 wN) := hide (HB7.out.trans (hbN.mono HB7.out.size))
                      have HA := hide (HA.out.below hbN)
                      have HL := hide (HL.out.below hbN)
                      have HN := hide (hoN.mono HB7.out.size)
                      clear hoN hbN
                      first
                        | refine hK.out _ _ ?_ (fun hHeld => ?_)
                        | (go_wp2_with fail; refine hK.out _ _ ?_ (fun hHeld => ?_))
                      · exact KEEP.out _ HB9.out
                      clear hK K
                      try simp only [Act.put, List.setIfInBounds_toArray, List.set_cons_zero, List.set_cons_succ]
                      refine wpAnyH_ready (rs := [12]) (by kernel_rfl) (by simp) ?_
                      refine AllReadyH.cons (o := { dst := some 126, op := Op.call { callee := Callee.builtin Builtin.append, args := #[Operand.tmp 123, Operand.tmp 125], argTypes := #[23, 23] }, type := 23, pos := "law.go:216", after := _, guard := none }) rfl (fun K hK => ?_) AllReadyH.nil
                      refine step_pushN_at (by rfl) _ _ (by rfl) (by rfl) la1 (by rfl) (by rfl) HL.out.lit_cell HN.out HFL.out (HB9.out.size) (by have := HTL.out; omega) ?_
                      intro vZ wZ hoZ hgZ hbZ
                      obtain ⟨pZ, nZ, cZ, rfl⟩ := hoZ.ns.sl
                      have HB12 : Hid (Below w5.heap.size w5 wZ) := hide (HB9.out.grown hgZ HB9.out.size fun k hk => (HN.out.lt k hk).1)
                      have HA := hide (HA.out.grown' HN.out hgZ)
                      have HZ9 := hide hoZ
                      clear hoZ hbZ hgZ
                      first
                        | refine hK.out _ _ ?_ (fun hHeld => ?_)
                        | (go_wp2_with fail; refine hK.out _ _ ?_ (fun hHeld => ?_))
                      · exact KEEP.out _ HB12.out
                      clear hK K
                      try simp only [Act.put, List.setIfInBounds_toArray, List.set_cons_zero, List.set_cons_succ]
                      refine wpAnyH_take (i := 13) (oi := { dst := some 4, op := Op.assign (Operand.tmp 121), type := 28, pos := "law.go:216", after := _, guard := none }) (v := ?_) rfl (by kernel_rfl) (by kernel_rfl) (by kernel_rfl) (fun _ _ _ h => h) (Or.inl ⟨by rfl, ?_⟩) (by assumption) ?_
                      rotate_left
                      · intro w hSw
                        (try dsimp only at hSw)
                        go_simp
                        try with_reducible rfl
                      try simp only [Act.put, List.setIfInBounds_toArray, List.set_cons_zero, List.set_cons_succ]
                      refine wpAnyH_take (i := 14) (oi := { dst := some 5, op := Op.assign (Operand.tmp 126), type := 23, pos := "law.go:216", after := _, guard := none }) (v := ?_) rfl (by kernel_rfl) (by kernel_rfl) (by kernel_rfl) (fun _ _ _ h => h) (Or.inl ⟨by rfl, ?_⟩) (by assumption) ?_
                      rotate_left
                      · intro w hSw
                        (try dsimp only at hSw)
                        go_simp
                        try with_reducible rfl
                      try simp only [Act.put, List.setIfInBounds_toArray, List.set_cons_zero, List.set_cons_succ]
                      refine wpAnyH_done (by kernel_rfl) ?_ _
                      have HQZ : Hid (Kq w wZ B2 g vb5 (.slice pA nA cA) (.slice pZ nZ cZ) ⟨x.last + 1, x.ps ++ [(x.last + 1, y.m)]⟩ (T ++ [y]) (I ++ [x.last + 1])) := hide ((HQ5.out.below HB12.out).rows (HA.out.mono HQ5.out.bB) (by have h := HZ9.out.mono HQ5.out.bB; rw [← HLA1.out] at h; exact h) fun z hz => by
                        rcases List.mem_append.1 hz with hz | hz
                        · exact HQ5.out.tv z hz
                        · simp at hz; subst hz; exact HY.out)
                      have HKZ := hide (HKR.out.add y)
                      clear HA HZ9 HB12
                      have HLS := hide (list_bag HQZ.out.bag)
                      have hn6 : decide (256 < (nZ : Int)) = false := decide_eq_false (by have h1 := HQZ.out.it.ns.len.1; have h2 := HKZ.out.lens.2; have h3 := HQZ.out.bag.ok.few; omega)
                      go_wp2_with fail
                      refine HLS.out.mono ?_
                      rintro e wl ⟨ul, rfl, hol, hbl⟩
                      rw [← HKZ.out.im] at hol
                      obtain ⟨pl, nl, cl, rfl⟩ := hol.ns.sl
                      have HEQ := hide (eqInts_any hol.ns (HQZ.out.it.ns.below hbl))
                      have HQL := hide (HQZ.out.below hbl)
                      clear hol hbl HLS
                      go_wp2_with fail
                      refine HEQ.out.mono ?_
                      rintro e wm ⟨rfl, hbm⟩
                      have HQM := hide (HQL.out.below hbm)
                      clear hbm
                      go_wp2
                      go_roundw
                      case rel => exact ⟨k + 1, _, ⟨x.last + 1, x.ps ++ [(x.last + 1, y.m)]⟩, (T ++ [y]), (I ++ [x.last + 1]), by omega, by go_num, (by rw [← HLA1.out]), ⟨_, _, _, rfl⟩, ⟨_, _, _, rfl⟩, hide ⟨HQM.out, HKZ.out, HL9.out⟩⟩
                      case measure => simp [intOf]; omega
                    refine AllReadyH.cons (o := { dst := some 125, op := Op.buildSlice 23 1 #[(0, Operand.tmp 124)], type := 23, pos := "law.go:216", after := _, guard := none }) rfl (fun K hK => ?_) AllReadyH.nil
                    have HB11 : Hid (Below w5.heap.size w5 (wC.alloc (.cells #[.int .i64 la1] 3))) := hide (HB1.out.trans ((bel_al wC (.cells #[.int .i64 la1] 3)).mono HB1.out.size))
                    have HC := hide (HC.out.below (bel_al wC (.cells #[.int .i64 la1] 3)))
                    have HL : Hid (OwnN 0 (wC.alloc (.cells #[.int .i64 la1] 3)) (.slice (some ⟨wC.heap.size, 0, none⟩) 1 1) [la1]) := hide (by have h := ownN_lit wC la1 HFL.out; first | exact h | (simp only [size_alloc'] at h; exact h))
                    go_simp
                    first
                      | refine hK.out _ _ ?_ (fun hHeld => ?_)
                      | (go_wp2_with fail; refine hK.out _ _ ?_ (fun hHeld => ?_))
                    · exact KEEP.out _ HB11.out
                    clear hK K
                    try simp only [Act.put, List.setIfInBounds_toArray, List.set_cons_zero, List.set_cons_succ]
                    refine wpAnyH_ready (rs := [6]) (by kernel_rfl) (by simp) ?_
                    refine AllReadyH.cons (o := { dst := some 120, op := Op.buildSlice 28 1 #[(0, Operand.tmp 119)], type := 28, pos := "law.go:216", after := _, guard := none }) rfl (fun K hK => ?_) AllReadyH.nil
                    have HB6 : Hid (Below w5.heap.size w5 ((wC.alloc (.cells #[.int .i64 la1] 3)).alloc (objY y))) := hide (HB11.out.trans ((bel_al (wC.alloc (.cells #[.int .i64 la1] 3)) (objY y)).mono HB11.out.size))
                    have HC := hide (HC.out.below (bel_al (wC.alloc (.cells #[.int .i64 la1] 3)) (objY y)))
                    have HL := hide (HL.out.below (bel_al (wC.alloc (.cells #[.int .i64 la1] 3)) (objY y)))
                    have HM : Hid (Mcs ((wC.alloc (.cells #[.int .i64 la1] 3)).alloc (objY y)) (.slice (some ⟨wC.heap.size + 1, 0, none⟩) 1 1) [y]) := hide (by have h := mcs_lit (wC.alloc (.cells #[.int .i64 la1] 3)) y; first | exact h | (simp only [size_alloc'] at h; exact h))
                    go_simp
                    first
                      | refine hK.out _ _ ?_ (fun hHeld => ?_)
                      | (go_wp2_with fail; refine hK.out _ _ ?_ (fun hHeld => ?_))
                    · exact KEEP.out _ HB6.out
                    clear hK K
                    try simp only [Act.put, List.setIfInBounds_toArray, List.set_cons_zero, List.set_cons_succ]
                    refine wpAnyH_ready (rs := [7]) (by kernel_rfl) (by simp) ?_
                    refine AllReadyH.cons (o := { dst := some 121, op := Op.call { callee := Callee.builtin Builtin.append, args := #[Operand.tmp 115, Operand.tmp 120], argTypes := #[28, 28] }, type := 28, pos := "law.go:216", after := _, guard := none }) rfl (fun K hK => ?_) AllReadyH.nil
                    refine step_pushesM (by rfl) _ _ (by rfl) (by rfl) (by rfl) (by rfl) HC.out HM.out (HB6.out.size) (by have := HTL.out; simp; omega) ?_
                    intro vA wA hoA hbA hgA
                    obtain ⟨pA, nA, cA, rfl⟩ := hoA.mcs.sl
                    have HB7 : Hid (Below w5.heap.size w5 wA) := hide (HB6.out.grown hgA HB6.out.size fun k hk => (HC.out.lt k hk).1)
                    have HL := hide (HL.out.grown' HC.out hgA)
                    have HA := hide hoA
                    clear hoA hbA hgA
                    first
                      | refine hK.out _ _ ?_ (fun hHeld => ?_)
                      | (go_wp2_with fail; refine hK.out _ _ ?_ (fun hHeld => ?_))
                    · exact KEEP.out _ HB7.out
                    clear hK K
                    try simp only [Act.put, List.setIfInBounds_toArray, List.set_cons_zero, List.set_cons_succ]
                    refine wpAnyH_ready (rs := [9]) (by kernel_rfl) (by simp) ?_
                    refine AllReadyH.cons (o := { dst := some 123, op := Op.call { callee := Callee.value (Operand.func 39), args := #[Operand.tmp 122], argTypes := #[23] }, type := 23, pos := "law.go:216", after := _, guard := none }) rfl (fun K hK => ?_) AllReadyH.nil
                    go_simp
                    refine (HCI.out _ HB7.out).mono ?_
                    rintro eN wN ⟨pN, nN, cN, rfl, hoN, hbN⟩
                    have HB9 : Hid (Below w5.heap.size w5 wN) := hide (HB7.out.trans (hbN.mono HB7.out.size))
                    have HA := hide (HA.out.below hbN)
                    have HL := hide (HL.out.below hbN)
                    have HN := hide (hoN.mono HB7.out.size)
                    clear hoN hbN
                    first
                      | refine hK.out _ _ ?_ (fun hHeld => ?_)
                      | (go_wp2_with fail; refine hK.out _ _ ?_ (fun hHeld => ?_))
                    · exact KEEP.out _ HB9.out
                    clear hK K
                    try simp only [Act.put, List.setIfInBounds_toArray, List.set_cons_zero, List.set_cons_succ]
                    refine wpAnyH_ready (rs := [12]) (by kernel_rfl) (by simp) ?_
                    refine AllReadyH.cons (o := { dst := some 126, op := Op.call { callee := Callee.builtin Builtin.append, args := #[Operand.tmp 123, Operand.tmp 125], argTypes := #[23, 23] }, type := 23, pos := "law.go:216", after := _, guard := none }) rfl (fun K hK => ?_) AllReadyH.nil
                    refine step_pushN_at (by rfl) _ _ (by rfl) (by rfl) la1 (by rfl) (by rfl) HL.out.lit_cell HN.out HFL.out (HB9.out.size) (by have := HTL.out; omega) ?_
                    intro vZ wZ hoZ hgZ hbZ
                    obtain ⟨pZ, nZ, cZ, rfl⟩ := hoZ.ns.sl
                    have HB12 : Hid (Below w5.heap.size w5 wZ) := hide (HB9.out.grown hgZ HB9.out.size fun k hk => (HN.out.lt k hk).1)
                    have HA := hide (HA.out.grown' HN.out hgZ)
                    have HZ9 := hide hoZ
                    clear hoZ hbZ hgZ
                    first
                      | refine hK.out _ _ ?_ (fun hHeld => ?_)
                      | (go_wp2_with fail; refine hK.out _ _ ?_ (fun hHeld => ?_))
                    · exact KEEP.out _ HB12.out
                    clear hK K
                    try simp only [Act.put, List.setIfInBounds_toArray, List.set_cons_zero, List.set_cons_succ]
                    refine wpAnyH_take (i := 13) (oi := { dst := some 4, op := Op.assign (Operand.tmp 121), type := 28, pos := "law.go:216", after := _, guard := none }) (v := ?_) rfl (by kernel_rfl) (by kernel_rfl) (by kernel_rfl) (fun _ _ _ h => h) (Or.inl ⟨by rfl, ?_⟩) (by assumption) ?_
                    rotate_left
                    · intro w hSw
                      (try dsimp only at hSw)
                      go_simp
                      try with_reducible rfl
                    try simp only [Act.put, List.setIfInBounds_toArray, List.set_cons_zero, List.set_cons_succ]
                    refine wpAnyH_take (i := 14) (oi := { dst := some 5, op := Op.assign (Operand.tmp 126), type := 23, pos := "law.go:216", after := _, guard := none }) (v := ?_) rfl (by kernel_rfl) (by kernel_rfl) (by kernel_rfl) (fun _ _ _ h => h) (Or.inl ⟨by rfl, ?_⟩) (by assumption) ?_
                    rotate_left
                    · intro w hSw
                      (try dsimp only at hSw)
                      go_simp
                      try with_reducible rfl
                    try simp only [Act.put, List.setIfInBounds_toArray, List.set_cons_zero, List.set_cons_succ]
                    refine wpAnyH_done (by kernel_rfl) ?_ _
                    have HQZ : Hid (Kq w wZ B2 g vb5 (.slice pA nA cA) (.slice pZ nZ cZ) ⟨x.last + 1, x.ps ++ [(x.last + 1, y.m)]⟩ (T ++ [y]) (I ++ [x.last + 1])) := hide ((HQ5.out.below HB12.out).rows (HA.out.mono HQ5.out.bB) (by have h := HZ9.out.mono HQ5.out.bB; rw [← HLA1.out] at h; exact h) fun z hz => by
                      rcases List.mem_append.1 hz with hz | hz
                      · exact HQ5.out.tv z hz
                      · simp at hz; subst hz; exact HY.out)
                    have HKZ := hide (HKR.out.add y)
                    clear HA HZ9 HB12
                    have HLS := hide (list_bag HQZ.out.bag)
                    have hn6 : decide (256 < (nZ : Int)) = false := decide_eq_false (by have h1 := HQZ.out.it.ns.len.1; have h2 := HKZ.out.lens.2; have h3 := HQZ.out.bag.ok.few; omega)
                    go_wp2_with fail
                    refine HLS.out.mono ?_
                    rintro e wl ⟨ul, rfl, hol, hbl⟩
                    rw [← HKZ.out.im] at hol
                    obtain ⟨pl, nl, cl, rfl⟩ := hol.ns.sl
                    have HEQ := hide (eqInts_any hol.ns (HQZ.out.it.ns.below hbl))
                    have HQL := hide (HQZ.out.below hbl)
                    clear hol hbl HLS
                    go_wp2_with fail
                    refine HEQ.out.mono ?_
                    rintro e wm ⟨rfl, hbm⟩
                    have HQM := hide (HQL.out.below hbm)
                    clear hbm
                    go_wp2
                    go_roundw
                    case rel => exact ⟨k + 1, _, ⟨x.last + 1, x.ps ++ [(x.last + 1, y.m)]⟩, (T ++ [y]), (I ++ [x.last + 1]), by omega, by go_num, (by rw [← HLA1.out]), ⟨_, _, _, rfl⟩, ⟨_, _, _, rfl⟩, hide ⟨HQM.out, HKZ.out, HL9.out⟩⟩
                    case measure => simp [intOf]; omega
                  refine AllReadyH.cons (o := { dst := some 120, op := Op.buildSlice 28 1 #[(0, Operand.tmp 119)], type := 28, pos := "law.go:216", after := _, guard := none }) rfl (fun K hK => ?_) ?_
                  · have HB6 : Hid (Below w5.heap.size w5 (w5.alloc (objY y)).drew) := hide ((bel_drewN (Below.refl w5.heap.size w5) 1).trans ((bel_ad w5 (objY y)).mono (bel_drewN (Below.refl w5.heap.size w5) 1).size))
                    have HM : Hid (Mcs (w5.alloc (objY y)).drew (.slice (some ⟨w5.heap.size, 0, none⟩) 1 1) [y]) := hide (by have h := mcs_lit w5 y; first | exact h | (simp only [size_alloc'] at h; exact h))
                    go_simp
                    first
                      | refine hK.out _ _ ?_ (fun hHeld => ?_)
                      | (go_wp2_with fail; refine hK.out _ _ ?_ (fun hHeld => ?_))
                    · exact KEEP.out _ HB6.out
                    clear hK K
                    try simp only [Act.put, List.setIfInBounds_toArray, List.set_cons_zero, List.set_cons_succ]
                    refine wpAnyH_ready (rs := [1, 11]) (by kernel_rfl) (by simp) ?_
                    refine AllReadyH.cons (o := { dst := some 115, op := Op.call { callee := Callee.value (Operand.func 37), args := #[Operand.tmp 114], argTypes := #[28] }, type := 28, pos := "law.go:216", after := _, guard := none }) rfl (fun K hK => ?_) ?_
                    · go_simp
                      refine (HCL.out _ HB6.out).mono ?_
                      rintro eC wC ⟨pC, nC, cC, rfl, hoC, hbC⟩
                      have HB1 : Hid (Below w5.heap.size w5 wC) := hide (HB6.out.trans (hbC.mono HB6.out.size))
                      have HM := hide (HM.out.below hbC)
                      have HC := hide (hoC.mono HB6.out.size)
                      clear hoC hbC
                      first
                        | refine hK.out _ _ ?_ (fun hHeld => ?_)
                        | (go_wp2_with fail; refine hK.out _ _ ?_ (fun hHeld => ?_))
                      · exact KEEP.out _ HB1.out
                      clear hK K
                      try simp only [Act.put, List.setIfInBounds_toArray, List.set_cons_zero, List.set_cons_succ]
                      refine wpAnyH_ready (rs := [7, 11]) (by kernel_rfl) (by simp) ?_
                      refine AllReadyH.cons (o := { dst := some 121, op := Op.call { callee := Callee.builtin Builtin.append, args := #[Operand.tmp 115, Operand.tmp 120], argTypes := #[28, 28] }, type := 28, pos := "law.go:216", after := _, guard := none }) rfl (fun K hK => ?_) ?_
                      · refine step_pushesM (by rfl) _ _ (by rfl) (by rfl) (by rfl) (by rfl) HC.out HM.out (HB1.out.size) (by have := HTL.out; simp; omega) ?_
                        intro vA wA hoA hbA hgA
                        obtain ⟨pA, nA, cA, rfl⟩ := hoA.mcs.sl
                        have HB7 : Hid (Below w5.heap.size w5 wA) := hide (HB1.out.grown hgA HB1.out.size fun k hk => (HC.out.lt k hk).1)
                        have HA := hide hoA
                        clear hoA hbA hgA
                        first
                          | refine hK.out _ _ ?_ (fun hHeld => ?_)
                          | (go_wp2_with fail; refine hK.out _ _ ?_ (fun hHeld => ?_))
                        · exact KEEP.out _ HB7.out
                        clear hK K
                        try simp only [Act.put, List.setIfInBounds_toArray, List.set_cons_zero, List.set_cons_succ]
                        refine wpAnyH_ready (rs := [9, 11]) (by kernel_rfl) (by simp) ?_
                        refine AllReadyH.cons (o := { dst := some 123, op := Op.call { callee := Callee.value (Operand.func 39), args := #[Operand.tmp 122], argTypes := #[23] }, type := 23, pos := "law.go:216", after := _, guard := none }) rfl (fun K hK => ?_) ?_
                        · go_simp
                          refine (HCI.out _ HB7.out).mono ?_
                          rintro eN wN ⟨pN, nN, cN, rfl, hoN, hbN⟩
                          have HB9 : Hid (Below w5.heap.size w5 wN) := hide (HB7.out.trans (hbN.mono HB7.out.size))
                          have HA := hide (HA.out.below hbN)
                          have HN := hide (hoN.mono HB7.out.size)
                          clear hoN hbN
                          first
                            | refine hK.out _ _ ?_ (fun hHeld => ?_)
                            | (go_wp2_with fail; refine hK.out _ _ ?_ (fun hHeld => ?_))
                          · exact KEEP.out _ HB9.out
                          clear hK K
                          try simp only [Act.put, List.setIfInBounds_toArray, List.set_cons_zero, List.set_cons_succ]
                          refine wpAnyH_ready (rs := [11]) (by kernel_rfl) (by simp) ?_
                          refine AllReadyH.cons (o := { dst := some 125, op := Op.buildSlice 23 1 #[(0, Operand.tmp 124)], type := 23, pos := "law.go:216", after := _, guard := none }) rfl (fun K hK => ?_) AllReadyH.nil
                          have HB11 : Hid (Below w5.heap.size w5 (wN.alloc (.cells #[.int .i64 la1] 3))) := hide (HB9.out.trans ((bel_al wN (.cells #[.int .i64 la1] 3)).mono HB9.out.size))
                          have HA := hide (HA.out.below (bel_al wN (.cells #[.int .i64 la1] 3)))
                          have HN := hide (HN.out.below (bel_al wN (.cells #[.int .i64 la1] 3)))
                          have HL : Hid (OwnN 0 (wN.alloc (.cells #[.int .i64 la1] 3)) (.slice (some ⟨wN.heap.size, 0, none⟩) 1 1) [la1]) := hide (by have h := ownN_lit wN la1 HFL.out; first | exact h | (simp only [size_alloc'] at h; exact h))
                          go_simp
                          first
                            | refine hK.out _ _ ?_ (fun hHeld => ?_)
                            | (go_wp2_with fail; refine hK.out _ _ ?_ (fun hHeld => ?_))
                          · exact KEEP.out _ HB11.out
                          clear hK K
                          try simp only [Act.put, List.setIfInBounds_toArray, List.set_cons_zero, List.set_cons_succ]
                          refine wpAnyH_ready (rs := [12]) (by kernel_rfl) (by simp) ?_
                          refine AllReadyH.cons (o := { dst := some 126, op := Op.call { callee := Callee.builtin Builtin.append, args := #[Operand.tmp 123, Operand.tmp 125], argTypes := #[23, 23] }, type := 23, pos := "law.go:216", after := _, guard := none }) rfl (fun K hK => ?_) AllReadyH.nil
                          refine step_pushN_at (by rfl) _ _ (by rfl) (by rfl) la1 (by rfl) (by rfl) HL.out.lit_cell HN.out HFL.out (HB11.out.size) (by have := HTL.out; omega) ?_
                          intro vZ wZ hoZ hgZ hbZ
                          obtain ⟨pZ, nZ, cZ, rfl⟩ := hoZ.ns.sl
                          have HB12 : Hid (Below w5.heap.size w5 wZ) := hide (HB11.out.grown hgZ HB11.out.size fun k hk => (HN.out.lt k hk).1)
                          have HA := hide (HA.out.grown' HN.out hgZ)
                          have HZ9 := hide hoZ
                          clear hoZ hbZ hgZ
                          first
                            | refine hK.out _ _ ?_ (fun hHeld => ?_)
                            | (go_wp2_with fail; refine hK.out _ _ ?_ (fun hHeld => ?_))
                          · exact KEEP.out _ HB12.out
                          clear hK K
                          try simp only [Act.put, List.setIfInBounds_toArray, List.set_cons_zero, List.set_cons_succ]
                          refine wpAnyH_take (i := 13) (oi := { dst := some 4, op := Op.assign (Operand.tmp 121), type := 28, pos := "law.go:216", after := _, guard := none }) (v := ?_) rfl (by kernel_rfl) (by kernel_rfl) (by kernel_rfl) (fun _ _ _ h => h) (Or.inl ⟨by rfl, ?_⟩) (by assumption) ?_
                          rotate_left
                          · intro w hSw
                            (try dsimp only at hSw)
                            go_simp
                            try with_reducible rfl
                          try simp only [Act.put, List.setIfInBounds_toArray, List.set_cons_zero, List.set_cons_succ]
                          refine wpAnyH_take (i := 14) (oi := { dst := some 5, op := Op.assign (Operand.tmp 126), type := 23, pos := "law.go:216", after := _, guard := none }) (v := ?_) rfl (by kernel_rfl) (by kernel_rfl) (by kernel_rfl) (fun _ _ _ h => h) (Or.inl ⟨by rfl, ?_⟩) (by assumption) ?_
                          rotate_left
                          · intro w hSw
                            (try dsimp only at hSw)
                            go_simp
                            try with_reducible rfl
                          try simp only [Act.put, List.setIfInBounds_toArray, List.set_cons_zero, List.set_cons_succ]
                          refine wpAnyH_done (by kernel_rfl) ?_ _
                          have HQZ : Hid (Kq w wZ B2 g vb5 (.slice pA nA cA) (.slice pZ nZ cZ) ⟨x.last + 1, x.ps ++ [(x.last + 1, y.m)]⟩ (T ++ [y]) (I ++ [x.last + 1])) := hide ((HQ5.out.below HB12.out).rows (HA.out.mono HQ5.out.bB) (by have h := HZ9.out.mono HQ5.out.bB; rw [← HLA1.out] at h; exact h) fun z hz => by
                            rcases List.mem_append.1 hz with hz | hz
                            · exact HQ5.out.tv z hz
                            · simp at hz; subst hz; exact HY.out)
                          have HKZ := hide (HKR.out.add y)
                          clear HA HZ9 HB12
                          have HLS := hide (list_bag HQZ.out.bag)
                          have hn6 : decide (256 < (nZ : Int)) = false := decide_eq_false (by have h1 := HQZ.out.it.ns.len.1; have h2 := HKZ.out.lens.2; have h3 := HQZ.out.bag.ok.few; omega)
                          go_wp2_with fail
                          refine HLS.out.mono ?_
                          rintro e wl ⟨ul, rfl, hol, hbl⟩
                          rw [← HKZ.out.im] at hol
                          obtain ⟨pl, nl, cl, rfl⟩ := hol.ns.sl
                          have HEQ := hide (eqInts_any hol.ns (HQZ.out.it.ns.below hbl))
                          have HQL := hide (HQZ.out.below hbl)
                          clear hol hbl HLS
                          go_wp2_with fail
                          refine HEQ.out.mono ?_
                          rintro e wm ⟨rfl, hbm⟩
                          have HQM := hide (HQL.out.below hbm)
                          clear hbm
                          go_wp2
                          go_roundw
                          case rel => exact ⟨k + 1, _, ⟨x.last + 1, x.ps ++ [(x.last + 1, y.m)]⟩, (T ++ [y]), (I ++ [x.last + 1]), by omega, by go_num, (by rw [← HLA1.out]), ⟨_, _, _, rfl⟩, ⟨_, _, _, rfl⟩, hide ⟨HQM.out, HKZ.out, HL9.out⟩⟩
                          case measure => simp [intOf]; omega
                        refine AllReadyH.cons (o := { dst := some 125, op := Op.buildSlice 23 1 #[(0, Operand.tmp 124)], type := 23, pos := "law.go:216", after := _, guard := none }) rfl (fun K hK => ?_) AllReadyH.nil
                        have HB11 : Hid (Below w5.heap.size w5 (wA.alloc (.cells #[.int .i64 la1] 3))) := hide (HB7.out.trans ((bel_al wA (.cells #[.int .i64 la1] 3)).mono HB7.out.size))
                        have HA := hide (HA.out.below (bel_al wA (.cells #[.int .i64 la1] 3)))
                        have HL : Hid (OwnN 0 (wA.alloc (.cells #[.int .i64 la1] 3)) (.slice (some ⟨wA.heap.size, 0, none⟩) 1 1) [la1]) := hide (by have h := ownN_lit wA la1 HFL.out; first | exact h | (simp only [size_alloc'] at h; exact h))
                        go_simp
                        first
                          | refine hK.out _ _ ?_ (fun hHeld => ?_)
                          | (go_wp2_with fail; refine hK.out _ _ ?_ (fun hHeld => ?_))
                        · exact KEEP.out _ HB11.out
                        clear hK K
                        try simp only [Act.put, List.setIfInBounds_toArray, List.set_cons_zero, List.set_cons_succ]
                        refine wpAnyH_ready (rs := [9]) (by kernel_rfl) (by simp) ?_
                        refine AllReadyH.cons (o := { dst := some 123, op := Op.call { callee := Callee.value (Operand.func 39), args := #[Operand.tmp 122], argTypes := #[23] }, type := 23, pos := "law.go:216", after := _, guard := none }) rfl (fun K hK => ?_) AllReadyH.nil
                        go_simp
                        refine (HCI.out _ HB11.out).mono ?_
                        rintro eN wN ⟨pN, nN, cN, rfl, hoN, hbN⟩
                        have HB9 : Hid (Below w5.heap.size w5 wN) := hide (HB11.out.trans (hbN.mono HB11.out.size))
                        have HA := hide (HA.out.below hbN)
                        have HL := hide (HL.out.below hbN)
                        have HN := hide (hoN.mono HB11.out.size)
                        clear hoN hbN
                        first
                          | refine hK.out _ _ ?_ (fun hHeld => ?_)
                          | (go_wp2_with fail; refine hK.out _ _ ?_ (fun hHeld => ?_))
                        · exact KEEP.out _ HB9.out
                        clear hK K
                        try simp only [Act.put, List.setIfInBounds_toArray, List.set_cons_zero, List.set_cons_succ]
                        refine wpAnyH_ready (rs := [12]) (by kernel_rfl) (by simp) ?_
                        refine AllReadyH.cons (o := { dst := some 126, op := Op.call { callee := Callee.builtin Builtin.append, args := #[Operand.tmp 123, Operand.tmp 125], argTypes := #[23, 23] }, type := 23, pos := "law.go:216", after := _, guard := none }) rfl (fun K hK => ?_) AllReadyH.nil
                        refine step_pushN_at (by rfl) _ _ (by rfl) (by rfl) la1 (by rfl) (by rfl) HL.out.lit_cell HN.out HFL.out (HB9.out.size) (by have := HTL.out; omega) ?_
                        intro vZ wZ hoZ hgZ hbZ
                        obtain ⟨pZ, nZ, cZ, rfl⟩ := hoZ.ns.sl
                        have HB12 : Hid (Below w5.heap.size w5 wZ) := hide (HB9.out.grown hgZ HB9.out.size fun k hk => (HN.out.lt k hk).1)
                        have HA := hide (HA.out.grown' HN.out hgZ)
                        have HZ9 := hide hoZ
                        clear hoZ hbZ hgZ
                        first
                          | refine hK.out _ _ ?_ (fun hHeld => ?_)
                          | (go_wp2_with fail; refine hK.out _ _ ?_ (fun hHeld => ?_))
                        · exact KEEP.out _ HB12.out
                        clear hK K
                        try simp only [Act.put, List.setIfInBounds_toArray, List.set_cons_zero, List.set_cons_succ]
                        refine wpAnyH_take (i := 13) (oi := { dst := some 4, op := Op.assign (Operand.tmp 121), type := 28, pos := "law.go:216", after := _, guard := none }) (v := ?_) rfl (by kernel_rfl) (by kernel_rfl) (by kernel_rfl) (fun _ _ _ h => h) (Or.inl ⟨by rfl, ?_⟩) (by assumption) ?_
                        rotate_left
                        · intro w hSw
                          (try dsimp only at hSw)
                          go_simp
                          try with_reducible rfl
                        try simp only [Act.put, List.setIfInBounds_toArray, List.set_cons_zero, List.set_cons_succ]
                        refine wpAnyH_take (i := 14) (oi := { dst := some 5, op := Op.assign (Operand.tmp 126), type := 23, pos := "law.go:216", after := _, guard := none }) (v := ?_) rfl (by kernel_rfl) (by kernel_rfl) (by kernel_rfl) (fun _ _ _ h => h) (Or.inl ⟨by rfl, ?_⟩) (by assumption) ?_
                        rotate_left
                        · intro w hSw
                          (try dsimp only at hSw)
                          go_simp
                          try with_reducible rfl
                        try simp only [Act.put, List.setIfInBounds_toArray, List.set_cons_zero, List.set_cons_succ]
                        refine wpAnyH_done (by kernel_rfl) ?_ _
                        have HQZ : Hid (Kq w wZ B2 g vb5 (.slice pA nA cA) (.slice pZ nZ cZ) ⟨x.last + 1, x.ps ++ [(x.last + 1, y.m)]⟩ (T ++ [y]) (I ++ [x.last + 1])) := hide ((HQ5.out.below HB12.out).rows (HA.out.mono HQ5.out.bB) (by have h := HZ9.out.mono HQ5.out.bB; rw [← HLA1.out] at h; exact h) fun z hz => by
                          rcases List.mem_append.1 hz with hz | hz
                          · exact HQ5.out.tv z hz
                          · simp at hz; subst hz; exact HY.out)
                        have HKZ := hide (HKR.out.add y)
                        clear HA HZ9 HB12
                        have HLS := hide (list_bag HQZ.out.bag)
                        have hn6 : decide (256 < (nZ : Int)) = false := decide_eq_false (by have h1 := HQZ.out.it.ns.len.1; have h2 := HKZ.out.lens.2; have h3 := HQZ.out.bag.ok.few; omega)
                        go_wp2_with fail
                        refine HLS.out.mono ?_
                        rintro e wl ⟨ul, rfl, hol, hbl⟩
                        rw [← HKZ.out.im] at hol
                        obtain ⟨pl, nl, cl, rfl⟩ := hol.ns.sl
                        have HEQ := hide (eqInts_any hol.ns (HQZ.out.it.ns.below hbl))
                        have HQL := hide (HQZ.out.below hbl)
                        clear hol hbl HLS
                        go_wp2_with fail
                        refine HEQ.out.mono ?_
                        rintro e wm ⟨rfl, hbm⟩
                        have HQM := hide (HQL.out.below hbm)
                        clear hbm
                        go_wp2
                        go_roundw
                        case rel => exact ⟨k + 1, _, ⟨x.last + 1, x.ps ++ [(x.last + 1, y.m)]⟩, (T ++ [y]), (I ++ [x.last + 1]), by omega, by go_num, (by rw [← HLA1.out]), ⟨_, _, _, rfl⟩, ⟨_, _, _, rfl⟩, hide ⟨HQM.out, HKZ.out, HL9.out⟩⟩
                        case measure => simp [intOf]; omega
                      refine AllReadyH.cons (o := { dst := some 125, op := Op.buildSlice 23 1 #[(0, Operand.tmp 124)], type := 23, pos := "law.go:216", after := _, guard := none }) rfl (fun K hK => ?_) AllReadyH.nil
                      have HB11 : Hid (Below w5.heap.size w5 (wC.alloc (.cells #[.int .i64 la1] 3))) := hide (HB1.out.trans ((bel_al wC (.cells #[.int .i64 la1] 3)).mono HB1.out.size))
                      have HC := hide (HC.out.below (bel_al wC (.cells #[.int .i64 la1] 3)))
                      have HM := hide (HM.out.below (bel_al wC (.cells #[.int .i64 la1] 3)))
                      have HL : Hid (OwnN 0 (wC.alloc (.cells #[.int .i64 la1] 3)) (.slice (some ⟨wC.heap.size, 0, none⟩) 1 1) [la1]) := hide (by have h := ownN_lit wC la1 HFL.out; first | exact h | (simp only [size_alloc'] at h; exact h))
                      go_simp
                      first
                        | refine hK.out _ _ ?_ (fun hHeld => ?_)
                        | (go_wp2_with fail; refine hK.out _ _ ?_ (fun hHeld => ?_))
                      · exact KEEP.out _ HB11.out
                      clear hK K
                      try simp only [Act.put, List.setIfInBounds_toArray, List.set_cons_zero, List.set_cons_succ]
                      refine wpAnyH_ready (rs := [7]) (by kernel_rfl) (by simp) ?_
                      refine AllReadyH.cons (o := { dst := some 121, op := Op.call { callee := Callee.builtin Builtin.append, args := #[Operand.tmp 115, Operand.tmp 120], argTypes := #[28, 28] }, type := 28, pos := "law.go:216", after := _, guard := none }) rfl (fun K hK => ?_) AllReadyH.nil
                      refine step_pushesM (by rfl) _ _ (by rfl) (by rfl) (by rfl) (by rfl) HC.out HM.out (HB11.out.size) (by have := HTL.out; simp; omega) ?_
                      intro vA wA hoA hbA hgA
                      obtain ⟨pA, nA, cA, rfl⟩ := hoA.mcs.sl
                      have HB7 : Hid (Below w5.heap.size w5 wA) := hide (HB11.out.grown hgA HB11.out.size fun k hk => (HC.out.lt k hk).1)
                      have HL := hide (HL.out.grown' HC.out hgA)
                      have HA := hide hoA
                      clear hoA hbA hgA
                      first
                        | refine hK.out _ _ ?_ (fun hHeld => ?_)
                        | (go_wp2_with fail; refine hK.out _ _ ?_ (fun hHeld => ?_))
                      · exact KEEP.out _ HB7.out
                      clear hK K
                      try simp only [Act.put, List.setIfInBounds_toArray, List.set_cons_zero, List.set_cons_succ]
                      refine wpAnyH_ready (rs := [9]) (by kernel_rfl) (by simp) ?_
                      refine AllReadyH.cons (o := { dst := some 123, op := Op.call { callee := Callee.value (Operand.func 39), args := #[Operand.tmp 122], argTypes := #[23] }, type := 23, pos := "law.go:216", after := _, guard := none }) rfl (fun K hK => ?_) AllReadyH.nil
                      go_simp
                      refine (HCI.out _ HB7.out).mono ?_
                      rintro eN wN ⟨pN, nN, cN, rfl, hoN, hbN⟩
                      have HB9 : Hid (Below w5.heap.size w5 wN) := hide (HB7.out.trans (hbN.mono HB7.out.size))
                      have HA := hide (HA.out.below hbN)
                      have HL := hide (HL.out.below hbN)
                      have HN := hide (hoN.mono HB7.out.size)
                      clear hoN hbN
                      first
                        | refine hK.out _ _ ?_ (fun hHeld => ?_)
                        | (go_wp2_with fail; refine hK.out _ _ ?_ (fun hHeld => ?_))
                      · exact KEEP.out _ HB9.out
                      clear hK K
                      try simp only [Act.put, List.setIfInBounds_toArray, List.set_cons_zero, List.set_cons_succ]
                      refine wpAnyH_ready (rs := [12]) (by kernel_rfl) (by simp) ?_
                      refine AllReadyH.cons (o := { dst := some 126, op := Op.call { callee := Callee.builtin Builtin.append, args := #[Operand.tmp 123, Operand.tmp 125], argTypes := #[23, 23] }, type := 23, pos := "law.go:216", after := _, guard := none }) rfl (fun K hK => ?_) AllReadyH.nil
                      refine step_pushN_at (by rfl) _ _ (by rfl) (by rfl) la1 (by rfl) (by rfl) HL.out.lit_cell HN.out HFL.out (HB9.out.size) (by have := HTL.out; omega) ?_
                      intro vZ wZ hoZ hgZ hbZ
                      obtain ⟨pZ, nZ, cZ, rfl⟩ := hoZ.ns.sl
                      have HB12 : Hid (Below w5.heap.size w5 wZ) := hide (HB9.out.grown hgZ HB9.out.size fun k hk => (HN.out.lt k hk).1)
                      have HA := hide (HA.out.grown' HN.out hgZ)
                      have HZ9 := hide hoZ
                      clear hoZ hbZ hgZ
                      first
                        | refine hK.out _ _ ?_ (fun hHeld => ?_)
                        | (go_wp2_with fail; refine hK.out _ _ ?_ (fun hHeld => ?_))
                      · exact KEEP.out _ HB12.out
                      clear hK K
                      try simp only [Act.put, List.setIfInBounds_toArray, List.set_cons_zero, List.set_cons_succ]
                      refine wpAnyH_take (i := 13) (oi := { dst := some 4, op := Op.assign (Operand.tmp 121), type := 28, pos := "law.go:216", after := _, guard := none }) (v := ?_) rfl (by kernel_rfl) (by kernel_rfl) (by kernel_rfl) (fun _ _ _ h => h) (Or.inl ⟨by rfl, ?_⟩) (by assumption) ?_
                      rotate_left
                      · intro w hSw
                        (try dsimp only at hSw)
                        go_simp
                        try with_reducible rfl
                      try simp only [Act.put, List.setIfInBounds_toArray, List.set_cons_zero, List.set_cons_succ]
                      refine wpAnyH_take (i := 14) (oi := { dst := some 5, op := Op.assign (Operand.tmp 126), type := 23, pos := "law.go:216", after := _, guard := none }) (v := ?_) rfl (by kernel_rfl) (by kernel_rfl) (by kernel_rfl) (fun _ _ _ h => h) (Or.inl ⟨by rfl, ?_⟩) (by assumption) ?_
                      rotate_left
                      · intro w hSw
                        (try dsimp only at hSw)
                        go_simp
                        try with_reducible rfl
                      try simp only [Act.put, List.setIfInBounds_toArray, List.set_cons_zero, List.set_cons_succ]
                      refine wpAnyH_done (by kernel_rfl) ?_ _
                      have HQZ : Hid (Kq w wZ B2 g vb5 (.slice pA nA cA) (.slice pZ nZ cZ) ⟨x.last + 1, x.ps ++ [(x.last + 1, y.m)]⟩ (T ++ [y]) (I ++ [x.last + 1])) := hide ((HQ5.out.below HB12.out).rows (HA.out.mono HQ5.out.bB) (by have h := HZ9.out.mono HQ5.out.bB; rw [← HLA1.out] at h; exact h) fun z hz => by
                        rcases List.mem_append.1 hz with hz | hz
                        · exact HQ5.out.tv z hz
                        · simp at hz; subst hz; exact HY.out)
                      have HKZ := hide (HKR.out.add y)
                      clear HA HZ9 HB12
                      have HLS := hide (list_bag HQZ.out.bag)
                      have hn6 : decide (256 < (nZ : Int)) = false := decide_eq_false (by have h1 := HQZ.out.it.ns.len.1; have h2 := HKZ.out.lens.2; have h3 := HQZ.out.bag.ok.few; omega)
                      go_wp2_with fail
                      refine HLS.out.mono ?_
                      rintro e wl ⟨ul, rfl, hol, hbl⟩
                      rw [← HKZ.out.im] at hol
                      obtain ⟨pl, nl, cl, rfl⟩ := hol.ns.sl
                      have HEQ := hide (eqInts_any hol.ns (HQZ.out.it.ns.below hbl))
                      have HQL := hide (HQZ.out.below hbl)
                      clear hol hbl HLS
                      go_wp2_with fail
                      refine HEQ.out.mono ?_
                      rintro e wm ⟨rfl, hbm⟩
                      have HQM := hide (HQL.out.below hbm)
                      clear hbm
                      go_wp2
                      go_roundw
                      case rel => exact ⟨k + 1, _, ⟨x.last + 1, x.ps ++ [(x.last + 1, y.m)]⟩, (T ++ [y]), (I ++ [x.last + 1]), by omega, by go_num, (by rw [← HLA1.out]), ⟨_, _, _, rfl⟩, ⟨_, _, _, rfl⟩, hide ⟨HQM.out, HKZ.out, HL9.out⟩⟩
                      case measure => simp [intOf]; omega
                    refine AllReadyH.cons (o := { dst := some 125, op := Op.buildSlice 23 1 #[(0, Operand.tmp 124)], type := 23, pos := "law.go:216", after := _, guard := none }) rfl (fun K hK => ?_) AllReadyH.nil
                    have HB11 : Hid (Below w5.heap.size w5 ((w5.alloc (objY y)).alloc (.cells #[.int .i64 la1] 3)).drew) := hide (HB6.out.trans ((bel_ad (w5.alloc (objY y)) (.cells #[.int .i64 la1] 3)).mono HB6.out.size))
                    have HM := hide (HM.out.below (bel_ad (w5.alloc (objY y)) (.cells #[.int .i64 la1] 3)))
                    have HL : Hid (OwnN 0 ((w5.alloc (objY y)).alloc (.cells #[.int .i64 la1] 3)).drew (.slice (some ⟨w5.heap.size + 1, 0, none⟩) 1 1) [la1]) := hide (by have h := ownN_lit (w5.alloc (objY y)) la1 HFL.out; first | exact h | (simp only [size_alloc'] at h; exact h))
                    go_simp
                    first
                      | refine hK.out _ _ ?_ (fun hHeld => ?_)
                      | (go_wp2_with fail; refine hK.out _ _ ?_ (fun hHeld => ?_))
                    · exact KEEP.out _ HB11.out
                    clear hK K
                    try simp only [Act.put, List.setIfInBounds_toArray, List.set_cons_zero, List.set_cons_succ]
                    refine wpAnyH_ready (rs := [1]) (by kernel_rfl) (by simp) ?_
                    refine AllReadyH.cons (o := { dst := some 115, op := Op.call { callee := Callee.value (Operand.func 37), args := #[Operand.tmp 114], argTypes := #[28] }, type := 28, pos := "law.go:216", after := _, guard := none }) rfl (fun K hK => ?_) AllReadyH.nil
                    go_simp
                    refine (HCL.out _ HB11.out).mono ?_
                    rintro eC wC ⟨pC, nC, cC, rfl, hoC, hbC⟩
                    have HB1 : Hid (Below w5.heap.size w5 wC) := hide (HB11.out.trans (hbC.mono HB11.out.size))
                    have HM := hide (HM.out.below hbC)
                    have HL := hide (HL.out.below hbC)
                    have HC := hide (hoC.mono HB11.out.size)
                    clear hoC hbC
                    first
                      | refine hK.out _ _ ?_ (fun hHeld => ?_)
                      | (go_wp2_with fail; refine hK.out _ _ ?_ (fun hHeld => ?_))
                    · exact KEEP.out _ HB1.out
                    clear hK K
                    try simp only [Act.put, List.setIfInBounds_toArray, List.set_cons_zero, List.set_cons_succ]
                    refine wpAnyH_ready (rs := [7]) (by kernel_rfl) (by simp) ?_
                    refine AllReadyH.cons (o := { dst := some 121, op := Op.call { callee := Callee.builtin Builtin.append, args := #[Operand.tmp 115, Operand.tmp 120], argTypes := #[28, 28] }, type := 28, pos := "law.go:216", after := _, guard := none }) rfl (fun K hK => ?_) AllReadyH.nil
                    refine step_pushesM (by rfl) _ _ (by rfl) (by rfl) (by rfl) (by rfl) HC.out HM.out (HB1.out.size) (by have := HTL.out; simp; omega) ?_
                    intro vA wA hoA hbA hgA
                    obtain ⟨pA, nA, cA, rfl⟩ := hoA.mcs.sl
                    have HB7 : Hid (Below w5.heap.size w5 wA) := hide (HB1.out.grown hgA HB1.out.size fun k hk => (HC.out.lt k hk).1)
                    have HL := hide (HL.out.grown' HC.out hgA)
                    have HA := hide hoA
                    clear hoA hbA hgA
                    first
                      | refine hK.out _ _ ?_ (fun hHeld => ?_)
                      | (go_wp2_with fail; refine hK.out _ _ ?_ (fun hHeld => ?_))
                    · exact KEEP.out _ HB7.out
                    clear hK K
                    try simp only [Act.put, List.setIfInBounds_toArray, List.set_cons_zero, List.set_cons_succ]
                    refine wpAnyH_ready (rs := [9]) (by kernel_rfl) (by simp) ?_
                    refine AllReadyH.cons (o := { dst := some 123, op := Op.call { callee := Callee.value (Operand.func 39), args := #[Operand.tmp 122], argTypes := #[23] }, type := 23, pos := "law.go:216", after := _, guard := none }) rfl (fun K hK => ?_) AllReadyH.nil
                    go_simp
                    refine (HCI.out _ HB7.out).mono ?_
                    rintro eN wN ⟨pN, nN, cN, rfl, hoN, hbN⟩
                    have HB9 : Hid (Below w5.heap.size w5 wN) := hide (HB7.out.trans (hbN.mono HB7.out.size))
                    have HA := hide (HA.out.below hbN)
                    have HL := hide (HL.out.below hbN)
                    have HN := hide (hoN.mono HB7.out.size)
                    clear hoN hbN
                    first
                      | refine hK.out _ _ ?_ (fun hHeld => ?_)
                      | (go_wp2_with fail; refine hK.out _ _ ?_ (fun hHeld => ?_))
                    · exact KEEP.out _ HB9.out
                    clear hK K
                    try simp only [Act.put, List.setIfInBounds_toArray, List.set_cons_zero, List.set_cons_succ]
                    refine wpAnyH_ready (rs := [12]) (by kernel_rfl) (by simp) ?_
                    refine AllReadyH.cons (o := { dst := some 126, op := Op.call { callee := Callee.builtin Builtin.append, args := #[Operand.tmp 123, Operand.tmp 125], argTypes := #[23, 23] }, type := 23, pos := "law.go:216", after := _, guard := none }) rfl (fun K hK => ?_) AllReadyH.nil
                    refine step_pushN_at (by rfl) _ _ (by rfl) (by rfl) la1 (by rfl) (by rfl) HL.out.lit_cell HN.out HFL.out (HB9.out.size) (by have := HTL.out; omega) ?_
                    intro vZ wZ hoZ hgZ hbZ
                    obtain ⟨pZ, nZ, cZ, rfl⟩ := hoZ.ns.sl
                    have HB12 : Hid (Below w5.heap.size w5 wZ) := hide (HB9.out.grown hgZ HB9.out.size fun k hk => (HN.out.lt k hk).1)
                    have HA := hide (HA.out.grown' HN.out hgZ)
                    have HZ9 := hide hoZ
                    clear hoZ hbZ hgZ
                    first
                      | refine hK.out _ _ ?_ (fun hHeld => ?_)
                      | (go_wp2_with fail; refine hK.out _ _ ?_ (fun hHeld => ?_))
                    · exact KEEP.out _ HB12.out
                    clear hK K
                    try simp only [Act.put, List.setIfInBounds_toArray, List.set_cons_zero, List.set_cons_succ]
                    refine wpAnyH_take (i := 13) (oi := { dst := some 4, op := Op.assign (Operand.tmp 121), type := 28, pos := "law.go:216", after := _, guard := none }) (v := ?_) rfl (by kernel_rfl) (by kernel_rfl) (by kernel_rfl) (fun _ _ _ h => h) (Or.inl ⟨by rfl, ?_⟩) (by assumption) ?_
                    rotate_left
                    · intro w hSw
                      (try dsimp only at hSw)
                      go_simp
                      try with_reducible rfl
                    try simp only [Act.put, List.setIfInBounds_toArray, List.set_cons_zero, List.set_cons_succ]
                    refine wpAnyH_take (i := 14) (oi := { dst := some 5, op := Op.assign (Operand.tmp 126), type := 23, pos := "law.go:216", after := _, guard := none }) (v := ?_) rfl (by kernel_rfl) (by kernel_rfl) (by kernel_rfl) (fun _ _ _ h => h) (Or.inl ⟨by rfl, ?_⟩) (by assumption) ?_
                    rotate_left
                    · intro w hSw
                      (try dsimp only at hSw)
                      go_simp
                      try with_reducible rfl
                    try simp only [Act.put, List.setIfInBounds_toArray, List.set_cons_zero, List.set_cons_succ]
                    refine wpAnyH_done (by kernel_rfl) ?_ _
                    have HQZ : Hid (Kq w wZ B2 g vb5 (.slice pA nA cA) (.slice pZ nZ cZ) ⟨x.last + 1, x.ps ++ [(x.last + 1, y.m)]⟩ (T ++ [y]) (I ++ [x.last + 1])) := hide ((HQ5.out.below HB12.out).rows (HA.out.mono HQ5.out.bB) (by have h := HZ9.out.mono HQ5.out.bB; rw [← HLA1.out] at h; exact h) fun z hz => by
                      rcases List.mem_append.1 hz with hz | hz
                      · exact HQ5.out.tv z hz
                      · simp at hz; subst hz; exact HY.out)
                    have HKZ := hide (HKR.out.add y)
                    clear HA HZ9 HB12
                    have HLS := hide (list_bag HQZ.out.bag)
                    have hn6 : decide (256 < (nZ : Int)) = false := decide_eq_false (by have h1 := HQZ.out.it.ns.len.1; have h2 := HKZ.out.lens.2; have h3 := HQZ.out.bag.ok.few; omega)
                    go_wp2_with fail
                    refine HLS.out.mono ?_
                    rintro e wl ⟨ul, rfl, hol, hbl⟩
                    rw [← HKZ.out.im] at hol
                    obtain ⟨pl, nl, cl, rfl⟩ := hol.ns.sl
                    have HEQ := hide (eqInts_any hol.ns (HQZ.out.it.ns.below hbl))
                    have HQL := hide (HQZ.out.below hbl)
                    clear hol hbl HLS
                    go_wp2_with fail
                    refine HEQ.out.mono ?_
                    rintro e wm ⟨rfl, hbm⟩
                    have HQM := hide (HQL.out.below hbm)
                    clear hbm
                    go_wp2
                    go_roundw
                    case rel => exact ⟨k + 1, _, ⟨x.last + 1, x.ps ++ [(x.last + 1, y.m)]⟩, (T ++ [y]), (I ++ [x.last + 1]), by omega, by go_num, (by rw [← HLA1.out]), ⟨_, _, _, rfl⟩, ⟨_, _, _, rfl⟩, hide ⟨HQM.out, HKZ.out, HL9.out⟩⟩
                    case measure => simp [intOf]; omega
                  refine AllReadyH.cons (o := { dst := some 125, op := Op.buildSlice 23 1 #[(0, Operand.tmp 124)], type := 23, pos := "law.go:216", after := _, guard := none }) rfl (fun K hK => ?_) AllReadyH.nil
                  have HB11 : Hid (Below w5.heap.size w5 (w5.alloc (.cells #[.int .i64 la1] 3)).drew) := hide ((bel_drewN (Below.refl w5.heap.size w5) 1).trans ((bel_ad w5 (.cells #[.int .i64 la1] 3)).mono (bel_drewN (Below.refl w5.heap.size w5) 1).size))
                  have HL : Hid (OwnN 0 (w5.alloc (.cells #[.int .i64 la1] 3)).drew (.slice (some ⟨w5.heap.size, 0, none⟩) 1 1) [la1]) := hide (by have h := ownN_lit w5 la1 HFL.out; first | exact h | (simp only [size_alloc'] at h; exact h))
                  go_simp
                  first
                    | refine hK.out _ _ ?_ (fun hHeld => ?_)
                    | (go_wp2_with fail; refine hK.out _ _ ?_ (fun hHeld => ?_))
                  · exact KEEP.out _ HB11.out
                  clear hK K
                  try simp only [Act.put, List.setIfInBounds_toArray, List.set_cons_zero, List.set_cons_succ]
                  refine wpAnyH_ready (rs := [1, 6]) (by kernel_rfl) (by simp) ?_
                  refine AllReadyH.cons (o := { dst := some 115, op := Op.call { callee := Callee.value (Operand.func 37), args := #[Operand.tmp 114], argTypes := #[28] }, type := 28, pos := "law.go:216", after := _, guard := none }) rfl (fun K hK => ?_) ?_
                  · go_simp
                    refine (HCL.out _ HB11.out).mono ?_
                    rintro eC wC ⟨pC, nC, cC, rfl, hoC, hbC⟩
                    have HB1 : Hid (Below w5.heap.size w5 wC) := hide (HB11.out.trans (hbC.mono HB11.out.size))
                    have HL := hide (HL.out.below hbC)
                    have HC := hide (hoC.mono HB11.out.size)
                    clear hoC hbC
                    first
                      | refine hK.out _ _ ?_ (fun hHeld => ?_)
                      | (go_wp2_with fail; refine hK.out _ _ ?_ (fun hHeld => ?_))
                    · exact KEEP.out _ HB1.out
                    clear hK K
                    try simp only [Act.put, List.setIfInBounds_toArray, List.set_cons_zero, List.set_cons_succ]
                    refine wpAnyH_ready (rs := [6]) (by kernel_rfl) (by simp) ?_
                    refine AllReadyH.cons (o := { dst := some 120, op := Op.buildSlice 28 1 #[(0, Operand.tmp 119)], type := 28, pos := "law.go:216", after := _, guard := none }) rfl (fun K hK => ?_) AllReadyH.nil
                    have HB6 : Hid (Below w5.heap.size w5 (wC.alloc (objY y))) := hide (HB1.out.trans ((bel_al wC (objY y)).mono HB1.out.size))
                    have HC := hide (HC.out.below (bel_al wC (objY y)))
                    have HL := hide (HL.out.below (bel_al wC (objY y)))
                    have HM : Hid (Mcs (wC.alloc (objY y)) (.slice (some ⟨wC.heap.size, 0, none⟩) 1 1) [y]) := hide (by have h := mcs_lit wC y; first | exact h | (simp only [size_alloc'] at h; exact h))
                    go_simp
                    first
                      | refine hK.out _ _ ?_ (fun hHeld => ?_)
                      | (go_wp2_with fail; refine hK.out _ _ ?_ (fun hHeld => ?_))
                    · exact KEEP.out _ HB6.out
                    clear hK K
                    try simp only [Act.put, List.setIfInBounds_toArray, List.set_cons_zero, List.set_cons_succ]
                    refine wpAnyH_ready (rs := [7]) (by kernel_rfl) (by simp) ?_
                    refine AllReadyH.cons (o := { dst := some 121, op := Op.call { callee := Callee.builtin Builtin.append, args := #[Operand.tmp 115, Operand.tmp 120], argTypes := #[28, 28] }, type := 28, pos := "law.go:216", after := _, guard := none }) rfl (fun K hK => ?_) AllReadyH.nil
                    refine step_pushesM (by rfl) _ _ (by rfl) (by rfl) (by rfl) (by rfl) HC.out HM.out (HB6.out.size) (by have := HTL.out; simp; omega) ?_
                    intro vA wA hoA hbA hgA
                    obtain ⟨pA, nA, cA, rfl⟩ := hoA.mcs.sl
                    have HB7 : Hid (Below w5.heap.size w5 wA) := hide (HB6.out.grown hgA HB6.out.size fun k hk => (HC.out.lt k hk).1)
                    have HL := hide (HL.out.grown' HC.out hgA)
                    have HA := hide hoA
                    clear hoA hbA hgA
                    first
                      | refine hK.out _ _ ?_ (fun hHeld => ?_)
                      | (go_wp2_with fail; refine hK.out _ _ ?_ (fun hHeld => ?_))
                    · exact KEEP.out _ HB7.out
                    clear hK K
                    try simp only [Act.put, List.setIfInBounds_toArray, List.set_cons_zero, List.set_cons_succ]
                    refine wpAnyH_ready (rs := [9]) (by kernel_rfl) (by simp) ?_
                    refine AllReadyH.cons (o := { dst := some 123, op := Op.call { callee := Callee.value (Operand.func 39), args := #[Operand.tmp 122], argTypes := #[23] }, type := 23, pos := "law.go:216", after := _, guard := none }) rfl (fun K hK => ?_) AllReadyH.nil
                    go_simp
                    refine (HCI.out _ HB7.out).mono ?_
                    rintro eN wN ⟨pN, nN, cN, rfl, hoN, hbN⟩
                    have HB9 : Hid (Below w5.heap.size w5 wN) := hide (HB7.out.trans (hbN.mono HB7.out.size))
                    have HA := hide (HA.out.below hbN)
                    have HL := hide (HL.out.below hbN)
                    have HN := hide (hoN.mono HB7.out.size)
                    clear hoN hbN
                    first
                      | refine hK.out _ _ ?_ (fun hHeld => ?_)
                      | (go_wp2_with fail; refine hK.out _ _ ?_ (fun hHeld => ?_))
                    · exact KEEP.out _ HB9.out
                    clear hK K
                    try simp only [Act.put, List.setIfInBounds_toArray, List.set_cons_zero, List.set_cons_succ]
                    refine wpAnyH_ready (rs := [12]) (by kernel_rfl) (by simp) ?_
                    refine AllReadyH.cons (o := { dst := some 126, op := Op.call { callee := Callee.builtin Builtin.append, args := #[Operand.tmp 123, Operand.tmp 125], argTypes := #[23, 23] }, type := 23, pos := "law.go:216", after := _, guard := none }) rfl (fun K hK => ?_) AllReadyH.nil
                    refine step_pushN_at (by rfl) _ _ (by rfl) (by rfl) la1 (by rfl) (by rfl) HL.out.lit_cell HN.out HFL.out (HB9.out.size) (by have := HTL.out; omega) ?_
                    intro vZ wZ hoZ hgZ hbZ
                    obtain ⟨pZ, nZ, cZ, rfl⟩ := hoZ.ns.sl
                    have HB12 : Hid (Below w5.heap.size w5 wZ) := hide (HB9.out.grown hgZ HB9.out.size fun k hk => (HN.out.lt k hk).1)
                    have HA := hide (HA.out.grown' HN.out hgZ)
                    have HZ9 := hide hoZ
                    clear hoZ hbZ hgZ
                    first
                      | refine hK.out _ _ ?_ (fun hHeld => ?_)
                      | (go_wp2_with fail; refine hK.out _ _ ?_ (fun hHeld => ?_))
                    · exact KEEP.out _ HB12.out
                    clear hK K
                    try simp only [Act.put, List.setIfInBounds_toArray, List.set_cons_zero, List.set_cons_succ]
                    refine wpAnyH_take (i := 13) (oi := { dst := some 4, op := Op.assign (Operand.tmp 121), type := 28, pos := "law.go:216", after := _, guard := none }) (v := ?_) rfl (by kernel_rfl) (by kernel_rfl) (by kernel_rfl) (fun _ _ _ h => h) (Or.inl ⟨by rfl, ?_⟩) (by assumption) ?_
                    rotate_left
                    · intro w hSw
                      (try dsimp only at hSw)
                      go_simp
                      try with_reducible rfl
                    try simp only [Act.put, List.setIfInBounds_toArray, List.set_cons_zero, List.set_cons_succ]
                    refine wpAnyH_take (i := 14) (oi := { dst := some 5, op := Op.assign (Operand.tmp 126), type := 23, pos := "law.go:216", after := _, guard := none }) (v := ?_) rfl (by kernel_rfl) (by kernel_rfl) (by kernel_rfl) (fun _ _ _ h => h) (Or.inl ⟨by rfl, ?_⟩) (by assumption) ?_
                    rotate_left
                    · intro w hSw
                      (try dsimp only at hSw)
                      go_simp
                      try with_reducible rfl
                    try simp only [Act.put, List.setIfInBounds_toArray, List.set_cons_zero, List.set_cons_succ]
                    refine wpAnyH_done (by kernel_rfl) ?_ _
                    have HQZ : Hid (Kq w wZ B2 g vb5 (.slice pA nA cA) (.slice pZ nZ cZ) ⟨x.last + 1, x.ps ++ [(x.last + 1, y.m)]⟩ (T ++ [y]) (I ++ [x.last + 1])) := hide ((HQ5.out.below HB12.out).rows (HA.out.mono HQ5.out.bB) (by have h := HZ9.out.mono HQ5.out.bB; rw [← HLA1.out] at h; exact h) fun z hz => by
                      rcases List.mem_append.1 hz with hz | hz
                      · exact HQ5.out.tv z hz
                      · simp at hz; subst hz; exact HY.out)
                    have HKZ := hide (HKR.out.add y)
                    clear HA HZ9 HB12
                    have HLS := hide (list_bag HQZ.out.bag)
                    have hn6 : decide (256 < (nZ : Int)) = false := decide_eq_false (by have h1 := HQZ.out.it.ns.len.1; have h2 := HKZ.out.lens.2; have h3 := HQZ.out.bag.ok.few; omega)
                    go_wp2_with fail
                    refine HLS.out.mono ?_
                    rintro e wl ⟨ul, rfl, hol, hbl⟩
                    rw [← HKZ.out.im] at hol
                    obtain ⟨pl, nl, cl, rfl⟩ := hol.ns.sl
                    have HEQ := hide (eqInts_any hol.ns (HQZ.out.it.ns.below hbl))
                    have HQL := hide (HQZ.out.below hbl)
                    clear hol hbl HLS
                    go_wp2_with fail
                    refine HEQ.out.mono ?_
                    rintro e wm ⟨rfl, hbm⟩
                    have HQM := hide (HQL.out.below hbm)
                    clear hbm
                    go_wp2
                    go_roundw
                    case rel => exact ⟨k + 1, _, ⟨x.last + 1, x.ps ++ [(x.last + 1, y.m)]⟩, (T ++ [y]), (I ++ [x.last + 1]), by omega, by go_num, (by rw [← HLA1.out]), ⟨_, _, _, rfl⟩, ⟨_, _, _, rfl⟩, hide ⟨HQM.out, HKZ.out, HL9.out⟩⟩
                    case measure => simp [intOf]; omega
                  refine AllReadyH.cons (o := { dst := some 120, op := Op.buildSlice 28 1 #[(0, Operand.tmp 119)], type := 28, pos := "law.go:216", after := _, guard := none }) rfl (fun K hK => ?_) AllReadyH.nil
                  have HB6 : Hid (Below w5.heap.size w5 ((w5.alloc (.cells #[.int .i64 la1] 3)).alloc (objY y)).drew) := hide (HB11.out.trans ((bel_ad (w5.alloc (.cells #[.int .i64 la1] 3)) (objY y)).mono HB11.out.size))
                  have HL := hide (HL.out.below (bel_ad (w5.alloc (.cells #[.int .i64 la1] 3)) (objY y)))
                  have HM : Hid (Mcs ((w5.alloc (.cells #[.int .i64 la1] 3)).alloc (objY y)).drew (.slice (some ⟨w5.heap.size + 1, 0, none⟩) 1 1) [y]) := hide (by have h := mcs_lit (w5.alloc (.cells #[.int .i64 la1] 3)) y; first | exact h | (simp only [size_alloc'] at h; exact h))
                  go_simp
                  first
                    | refine hK.out _ _ ?_ (fun hHeld => ?_)
                    | (go_wp2_with fail; refine hK.out _ _ ?_ (fun hHeld => ?_))
                  · exact KEEP.out _ HB6.out
                  clear hK K
                  try simp only [Act.put, List.setIfInBounds_toArray, List.set_cons_zero, List.set_cons_succ]
                  refine wpAnyH_ready (rs := [1]) (by kernel_rfl) (by simp) ?_
                  refine AllReadyH.cons (o := { dst := some 115, op := Op.call { callee := Callee.value (Operand.func 37), args := #[Operand.tmp 114], argTypes := #[28] }, type := 28, pos := "law.go:216", after := _, guard := none }) rfl (fun K hK => ?_) AllReadyH.nil
                  go_simp
                  refine (HCL.out _ HB6.out).mono ?_
                  rintro eC wC ⟨pC, nC, cC, rfl, hoC, hbC⟩
                  have HB1 : Hid (Below w5.heap.size w5 wC) := hide (HB6.out.trans (hbC.mono HB6.out.size))
                  have HM := hide (HM.out.below hbC)
                  have HL := hide (HL.out.below hbC)
                  have HC := hide (hoC.mono HB6.out.size)
                  clear hoC hbC
                  first
                    | refine hK.out _ _ ?_ (fun hHeld => ?_)
                    | (go_wp2_with fail; refine hK.out _ _ ?_ (fun hHeld => ?_))
                  · exact KEEP.out _ HB1.out
                  clear hK K
                  try simp only [Act.put, List.setIfInBounds_toArray, List.set_cons_zero, List.set_cons_succ]
                  refine wpAnyH_ready (rs := [7]) (by kernel_rfl) (by simp) ?_
                  refine AllReadyH.cons (o := { dst := some 121, op := Op.call { callee := Callee.builtin Builtin.append, args := #[Operand.tmp 115, Operand.tmp 120], argTypes := #[28, 28] }, type := 28, pos := "law.go:216", after := _, guard := none }) rfl (fun K hK => ?_) AllReadyH.nil
                  refine step_pushesM (by rfl) _ _ (by rfl) (by rfl) (by rfl) (by rfl) HC.out HM.out (HB1.out.size) (by have := HTL.out; simp; omega) ?_
                  intro vA wA hoA hbA hgA
                  obtain ⟨pA, nA, cA, rfl⟩ := hoA.mcs.sl
                  have HB7 : Hid (Below w5.heap.size w5 wA) := hide (HB1.out.grown hgA HB1.out.size fun k hk => (HC.out.lt k hk).1)
                  have HL := hide (HL.out.grown' HC.out hgA)
                  have HA := hide hoA
                  clear hoA hbA hgA
                  first
                    | refine hK.out _ _ ?_ (fun hHeld => ?_)
                    | (go_wp2_with fail; refine hK.out _ _ ?_ (fun hHeld => ?_))
                  · exact KEEP.out _ HB7.out
                  clear hK K
                  try simp only [Act.put, List.setIfInBounds_toArray, List.set_cons_zero, List.set_cons_succ]
                  refine wpAnyH_ready (rs := [9]) (by kernel_rfl) (by simp) ?_
                  refine AllReadyH.cons (o := { dst := some 123, op := Op.call { callee := Callee.value (Operand.func 39), args := #[Operand.tmp 122], argTypes := #[23] }, type := 23, pos := "law.go:216", after := _, guard := none }) rfl (fun K hK => ?_) AllReadyH.nil
                  go_simp
                  refine (HCI.out _ HB7.out).mono ?_
                  rintro eN wN ⟨pN, nN, cN, rfl, hoN, hbN⟩
                  have HB9 : Hid (Below w5.heap.size w5 wN) := hide (HB7.out.trans (hbN.mono HB7.out.size))
                  have HA := hide (HA.out.below hbN)
                  have HL := hide (HL.out.below hbN)
                  have HN := hide (hoN.mono HB7.out.size)
                  clear hoN hbN
                  first
                    | refine hK.out _ _ ?_ (fun hHeld => ?_)
                    | (go_wp2_with fail; refine hK.out _ _ ?_ (fun hHeld => ?_))
                  · exact KEEP.out _ HB9.out
                  clear hK K
                  try simp only [Act.put, List.setIfInBounds_toArray, List.set_cons_zero, List.set_cons_succ]
                  refine wpAnyH_ready (rs := [12]) (by kernel_rfl) (by simp) ?_
                  refine AllReadyH.cons (o := { dst := some 126, op := Op.call { callee := Callee.builtin Builtin.append, args := #[Operand.tmp 123, Operand.tmp 125], argTypes := #[23, 23] }, type := 23, pos := "law.go:216", after := _, guard := none }) rfl (fun K hK => ?_) AllReadyH.nil
                  refine step_pushN_at (by rfl) _ _ (by rfl) (by rfl) la1 (by rfl) (by rfl) HL.out.lit_cell HN.out HFL.out (HB9.out.size) (by have := HTL.out; omega) ?_
                  intro vZ wZ hoZ hgZ hbZ
                  obtain ⟨pZ, nZ, cZ, rfl⟩ := hoZ.ns.sl
                  have HB12 : Hid (Below w5.heap.size w5 wZ) := hide (HB9.out.grown hgZ HB9.out.size fun k hk => (HN.out.lt k hk).1)
                  have HA := hide (HA.out.grown' HN.out hgZ)
                  have HZ9 := hide hoZ
                  clear hoZ hbZ hgZ
                  first
                    | refine hK.out _ _ ?_ (fun hHeld => ?_)
                    | (go_wp2_with fail; refine hK.out _ _ ?_ (fun hHeld => ?_))
                  · exact KEEP.out _ HB12.out
                  clear hK K
                  try simp only [Act.put, List.setIfInBounds_toArray, List.set_cons_zero, List.set_cons_succ]
                  refine wpAnyH_take (i := 13) (oi := { dst := some 4, op := Op.assign (Operand.tmp 121), type := 28, pos := "law.go:216", after := _, guard := none }) (v := ?_) rfl (by kernel_rfl) (by kernel_rfl) (by kernel_rfl) (fun _ _ _ h => h) (Or.inl ⟨by rfl, ?_⟩) (by assumption) ?_
                  rotate_left
                  · intro w hSw
                    (try dsimp only at hSw)
                    go_simp
                    try with_reducible rfl
                  try simp only [Act.put, List.setIfInBounds_toArray, List.set_cons_zero, List.set_cons_succ]
                  refine wpAnyH_take (i := 14) (oi := { dst := some 5, op := Op.assign (Operand.tmp 126), type := 23, pos := "law.go:216", after := _, guard := none }) (v := ?_) rfl (by kernel_rfl) (by kernel_rfl) (by kernel_rfl) (fun _ _ _ h => h) (Or.inl ⟨by rfl, ?_⟩) (by assumption) ?_
                  rotate_left
                  · intro w hSw
                    (try dsimp only at hSw)
                    go_simp
                    try with_reducible rfl
                  try simp only [Act.put, List.setIfInBounds_toArray, List.set_cons_zero, List.set_cons_succ]
                  refine wpAnyH_done (by kernel_rfl) ?_ _
                  have HQZ : Hid (Kq w wZ B2 g vb5 (.slice pA nA cA) (.slice pZ nZ cZ) ⟨x.last + 1, x.ps ++ [(x.last + 1, y.m)]⟩ (T ++ [y]) (I ++ [x.last + 1])) := hide ((HQ5.out.below HB12.out).rows (HA.out.mono HQ5.out.bB) (by have h := HZ9.out.mono HQ5.out.bB; rw [← HLA1.out] at h; exact h) fun z hz => by
                    rcases List.mem_append.1 hz with hz | hz
                    · exact HQ5.out.tv z hz
                    · simp at hz; subst hz; exact HY.out)
                  have HKZ := hide (HKR.out.add y)
                  clear HA HZ9 HB12
                  have HLS := hide (list_bag HQZ.out.bag)
                  have hn6 : decide (256 < (nZ : Int)) = false := decide_eq_false (by have h1 := HQZ.out.it.ns.len.1; have h2 := HKZ.out.lens.2; have h3 := HQZ.out.bag.ok.few; omega)
                  go_wp2_with fail
                  refine HLS.out.mono ?_
                  rintro e wl ⟨ul, rfl, hol, hbl⟩
                  rw [← HKZ.out.im] at hol
                  obtain ⟨pl, nl, cl, rfl⟩ := hol.ns.sl
                  have HEQ := hide (eqInts_any hol.ns (HQZ.out.it.ns.below hbl))
                  have HQL := hide (HQZ.out.below hbl)
                  clear hol hbl HLS
                  go_wp2_with fail
                  refine HEQ.out.mono ?_
                  rintro e wm ⟨rfl, hbm⟩
                  have HQM := hide (HQL.out.below hbm)
                  clear hbm
                  go_wp2
                  go_roundw
                  case rel => exact ⟨k + 1, _, ⟨x.last + 1, x.ps ++ [(x.last + 1, y.m)]⟩, (T ++ [y]), (I ++ [x.last + 1]), by omega, by go_num, (by rw [← HLA1.out]), ⟨_, _, _, rfl⟩, ⟨_, _, _, rfl⟩, hide ⟨HQM.out, HKZ.out, HL9.out⟩⟩
                  case measure => simp [intOf]; omega
            · replace h6 : (wrap64 ((IntKind.u64.wrap op).tmod 7) == 6) = false := by simpa using h6
              have hdl : dn = d.L.length := by
                obtain ⟨p', c', hpe, _⟩ := HMSL.out w (Below.refl _ _)
                injection hpe
              have HDL := hide hdl
              have hd9 : (dn : Int) ≤ 9223372036854775807 := by have := HSD.out.1; omega
              obtain ⟨x0, hx0⟩ : ∃ y, x = y := ⟨_, rfl⟩
              have HX0 : Hid (x0.last ≤ (k : Int) * 300 ∧ 0 ≤ x0.last) := hide (by rw [← hx0]; exact ⟨HLA.out, HQ.out.bag.ok.l0⟩)
              have HIN : Hid (Kq w Z B2 g vb (.slice pt nt ct) (.slice pi ni ci) x T I ∧ Kr x T I ∧ x.last - (x.ps.length : Int) = x0.last - x0.ps.length) := hide ⟨HQ.out, HKR.out, by rw [hx0]⟩
              clear hdl hx0
              go_wp2_with fail
              go_loopw [4, 5, 6, 13, 41] (fun vt vi la _ jj wr => ∃ (i : Nat) (vb : Value) (x : Bg) (T : List Mc) (I : List Int), i ≤ dn ∧ jj = .int .i64 i ∧ la = .int .i64 x.last ∧ (∃ p n c, vt = .slice p n c) ∧ (∃ p n c, vi = .slice p n c) ∧ Hid (Kq w wr B2 g vb vt vi x T I ∧ Kr x T I ∧ x.last - (x.ps.length : Int) = x0.last - x0.ps.length)) (fun _ _ _ _ jj _ => dn - (intOf jj).toNat)
              case atStart => exact ⟨0, vb, x, T, I, by omega, rfl, rfl, ⟨_, _, _, rfl⟩, ⟨_, _, _, rfl⟩, HIN⟩
              case round =>
                clear HIN z0 z1 z2 HZ HZR HXI HKR HLA
                obtain ⟨i, vb', x', T', I', hi, rfl, rfl, ⟨pt', nt', ct', rfl⟩, ⟨pi', ni', ci', rfl⟩, HS⟩ := hrel
                by_cases hil : i < dn
                · obtain ⟨m, hm⟩ : ∃ m, d.L[i]? = some m := ⟨_, List.getElem?_eq_getElem (by have := HDL.out; omega)⟩
                  obtain ⟨p', c', hpe, _, _, hms⟩ := HMSL.out w (Below.refl _ _)
                  injection hpe with hpe1 hpe2 hpe3
                  subst hpe1
                  clear hpe2 hpe3
                  obtain ⟨g3, o3, ve, vv, vd, rfl, hmv, hc⟩ := hms i m hm
                  obtain ⟨pe, ne, ce, rfl⟩ := hmv.es.sl
                  obtain ⟨pv, nv, cv, rfl⟩ := hmv.vs.sl
                  obtain ⟨pd, nd, cd, rfl⟩ := hmv.d.sl
                  obtain ⟨y, hy⟩ : ∃ y : Mc, (⟨m, pe, ne, ce, pv, nv, cv, pd, nd, cd⟩ : Mc) = y := ⟨_, rfl⟩
                  have hyv : McV w y := by rw [← hy]; exact hmv
                  have hyc : ∀ (j : Nat) u, (mcC y)[j]? = some u → wr.cell? ⟨g3, o3 + i * 13 + j, none⟩ = some u := fun j u hj => by
                    rw [← hy] at hj
                    have h1 := hc j u hj
                    exact (HS.out.1.bel.cell (lt_of_cell h1)).trans h1
                  have HY := hide hyv
                  clear hmv hc hms hm hy hyv
                  obtain ⟨oi, hoi⟩ : ∃ a, o3 + i * 13 = a := ⟨_, rfl⟩
                  rw [hoi] at hyc
                  have c0 := hyc 0 _ rfl
                  have c1 := hyc 1 _ rfl
                  have c2 := hyc 2 _ rfl
                  have c3 := hyc 3 _ rfl
                  have c4 := hyc 4 _ rfl
                  have c5 := hyc 5 _ rfl
                  have c6 := hyc 6 _ rfl
                  have c7 := hyc 7 _ rfl
                  have c8 := hyc 8 _ rfl
                  have c9 := hyc 9 _ rfl
                  have c10 := hyc 10 _ rfl
                  have c11 := hyc 11 _ rfl
                  have c12 := hyc 12 _ rfl
                  rw [Nat.add_zero] at c0
                  obtain ⟨bi, hbi⟩ : ∃ b, wr.heap.size = b := ⟨_, rfl⟩
                  obtain ⟨Zi, hZi⟩ : ∃ Z, wr.alloc (.cells #[.int .i64 y.m.k, .int .i64 y.m.f, .int .i64 y.m.t, .int .i64 y.m.tm, .int .i64 y.m.ix, .int .i64 y.m.lt, .int .i64 y.m.cm, .int .i64 y.m.rd, .bool y.m.ys, .bool y.m.dn, .slice y.pe y.ne y.ce, .slice y.pv y.nv y.cv, .slice y.pd y.nd y.cd] 26) = Z := ⟨_, rfl⟩
                  have hZib : Below wr.heap.size wr Zi := by rw [← hZi]; exact bel_al _ _
                  have hZir : Zi.heap[wr.heap.size]? = some (.cells #[.int .i64 y.m.k, .int .i64 y.m.f, .int .i64 y.m.t, .int .i64 y.m.tm, .int .i64 y.m.ix, .int .i64 y.m.lt, .int .i64 y.m.cm, .int .i64 y.m.rd, .bool y.m.ys, .bool y.m.dn, .slice y.pe y.ne y.ce, .slice y.pv y.nv y.cv, .slice y.pd y.nd y.cd] 26 (0, 0)) := by rw [← hZi]; exact heap_alloc_new wr _
                  rw [hbi] at hZir
                  have hzs : bi < Zi.heap.size := (Array.getElem?_eq_some_iff.1 hZir).1
                  obtain ⟨Zj, hZj⟩ : ∃ Z, Zi.alloc (.cells #[.int .i64 y.m.k, .int .i64 y.m.f, .int .i64 y.m.t, .int .i64 y.m.tm, .int .i64 y.m.ix, .int .i64 y.m.lt, .int .i64 y.m.cm, .int .i64 y.m.rd, .bool y.m.ys, .bool y.m.dn, .slice y.pe y.ne y.ce, .slice y.pv y.nv y.cv, .slice y.pd y.nd y.cd] 26) = Z := ⟨_, rfl⟩
                  have hZjb : Below Zi.heap.size Zi Zj := by rw [← hZj]; exact bel_al _ _
                  have hlit : Mcs Zj (.slice (some ⟨Zi.heap.size, 0, none⟩) 1 1) [y] := by rw [← hZj]; exact mcs_lit Zi y
                  have HQJ := hide ((HS.out.1.below hZib).below hZjb)
                  have hbS : ∀ j, BgS g vb' j → j < bi := fun j hj => by have := (HS.out.1.bag.S j hj).2; omega
                  have HBS := hide hbS
                  have HZJ := hide (Box13.of_row ((hZjb.block bi hzs).trans hZir))
                  have hlen1 := HS.out.2.1.lens
                  have hfew := HS.out.1.bag.ok.few
                  have hlas : x'.last ≤ 130000 := by have h1 := HS.out.2.2; have h2 := HX0.out; have h3 := HK4.out; omega
                  have HSB := hide (send_bag HQJ.out.bag (u := .slice (some ⟨Zi.heap.size, 0, none⟩) 1 1) (L := [y.m]) (fun W hW => mss_of_mcs (hlit.chg hW (fun j hj hS => by injection hj with hj; have h1 : (⟨Zi.heap.size, 0, none⟩ : Addr).block = Zi.heap.size := rfl; have h2 := hbS j hS; omega)) HY.out (hW.to_below HQJ.out.bel (fun j hj => (HQJ.out.bag.S j hj).1))) (by simp; omega) HQJ.out.bel.size)
                  have HLE := hide (And.intro hlen1 (And.intro hfew hlas))
                  have j4 : (0 : Int) ≤ (i : Int) := by omega
                  have j5 : (i : Int) < (dn : Int) := by omega
                  obtain ⟨b0, b1, b2, b3, b4, b5, b6, b7, b8, b9, b10, b11, b12⟩ := Box13.of_row hZir
                  clear hyc hZib hZir hZjb hlit hbS hzs hlen1 hfew hlas
                  go_wp2_with fail
                  refine HSB.out.mono ?_
                  rintro e w5 ⟨rfl, vb5, hbg5, hch5, -⟩
                  have HQ5 := hide (HQJ.out.call hbg5 hch5)
                  have HX5 := hide (HZJ.out.chg hch5 (fun hS => by have := HBS.out bi hS; omega))
                  have hsb : sendB x' [y.m] = send1 x' y.m := rfl
                  rw [hsb] at HQ5 ⊢
                  clear hbg5 hch5 HSB hsb hZi hZj hbi b0 b1 b2 b3 b4 b5 b6 b7 b8 b9 b10 b11 b12 c0 c1 c2 c3 c4 c5 c6 c7 c8 c9 c10 c11 c12
                  by_cases hok : (okM y.m && !fullB x') = true
                  · have hs1 : send1 x' y.m = ⟨x'.last + 1, x'.ps ++ [(x'.last + 1, y.m)]⟩ := by unfold send1; rw [if_pos hok]
                    rw [hs1] at HQ5 ⊢
                    have hd1 : x'.last + 1 - x'.last = 1 := by omega
                    dsimp only
                    rw [hd1]
                    have HTL : Hid (T'.length ≤ 256 ∧ I'.length ≤ 256) := hide (by have h1 := HLE.out; omega)
                    have hw1 : IntKind.i64.wrap (x'.last + 1) = x'.last + 1 := by have h1 := HLE.out; have h2 := HS.out.1.bag.ok.l0; rw [IntKind.wrap_i64]; omega
                    have HFL : Hid (fits (x'.last + 1)) := hide (by unfold fits; have h1 := HLE.out; have h2 := HS.out.1.bag.ok.l0; omega)
                    have HCL := hide (fun V (hV : Below w5.heap.size w5 V) => cloneM_any (HQ5.out.mt.mcs.below hV) (by have := HTL.out; omega))
                    have HCI := hide (fun V (hV : Below w5.heap.size w5 V) => cloneN_any (HQ5.out.it.ns.below hV) (by have := HTL.out; omega))
                    have KEEP := hide (show ∀ V, Below w5.heap.size w5 V → V.cell? ⟨bi, 0, none⟩ = some (.int .i64 y.m.k) ∧ V.cell? ⟨bi, 1, none⟩ = some (.int .i64 y.m.f) ∧ V.cell? ⟨bi, 2, none⟩ = some (.int .i64 y.m.t) ∧ V.cell? ⟨bi, 3, none⟩ = some (.int .i64 y.m.tm) ∧ V.cell? ⟨bi, 4, none⟩ = some (.int .i64 y.m.ix) ∧ V.cell? ⟨bi, 5, none⟩ = some (.int .i64 y.m.lt) ∧ V.cell? ⟨bi, 6, none⟩ = some (.int .i64 y.m.cm) ∧ V.cell? ⟨bi, 7, none⟩ = some (.int .i64 y.m.rd) ∧ V.cell? ⟨bi, 8, none⟩ = some (.bool y.m.ys) ∧ V.cell? ⟨bi, 9, none⟩ = some (.bool y.m.dn) ∧ V.cell? ⟨bi, 10, none⟩ = some (.slice y.pe y.ne y.ce) ∧ V.cell? ⟨bi, 11, none⟩ = some (.slice y.pv y.nv y.cv) ∧ V.cell? ⟨bi, 12, none⟩ = some (.slice y.pd y.nd y.cd) from fun V hV => by
                      obtain ⟨b0, b1, b2, b3, b4, b5, b6, b7, b8, b9, b10, b11, b12⟩ := HX5.out.below hV
                      exact ⟨b0, b1, b2, b3, b4, b5, b6, b7, b8, b9, b10, b11, b12⟩)
                    obtain ⟨la1, hla1⟩ : ∃ a, x'.last + 1 = a := ⟨_, rfl⟩
                    rw [hla1] at hw1 HFL
                    have HLA1 := hide hla1
                    clear hok hs1 hd1
                    go_wp2_with fail
                    refine wp_region_held_drew (S := fun V => V.cell? ⟨bi, 0, none⟩ = some (.int .i64 y.m.k) ∧ V.cell? ⟨bi, 1, none⟩ = some (.int .i64 y.m.f) ∧ V.cell? ⟨bi, 2, none⟩ = some (.int .i64 y.m.t) ∧ V.cell? ⟨bi, 3, none⟩ = some (.int .i64 y.m.tm) ∧ V.cell? ⟨bi, 4, none⟩ = some (.int .i64 y.m.ix) ∧ V.cell? ⟨bi, 5, none⟩ = some (.int .i64 y.m.lt) ∧ V.cell? ⟨bi, 6, none⟩ = some (.int .i64 y.m.cm) ∧ V.cell? ⟨bi, 7, none⟩ = some (.int .i64 y.m.rd) ∧ V.cell? ⟨bi, 8, none⟩ = some (.bool y.m.ys) ∧ V.cell? ⟨bi, 9, none⟩ = some (.bool y.m.dn) ∧ V.cell? ⟨bi, 10, none⟩ = some (.slice y.pe y.ne y.ce) ∧ V.cell? ⟨bi, 11, none⟩ = some (.slice y.pv y.nv y.cv) ∧ V.cell? ⟨bi, 12, none⟩ = some (.slice y.pd y.nd y.cd)) (by kernel_rfl) ?_ (fun hHeld => ?_)
                    · exact KEEP.out _ (bel_drewN (Below.refl _ _) 1)
                    refine wpAnyH_take (i := 0) (oi := { dst := some 52, op := Op.move (Operand.tmp 4), type := 28, pos := "law.go:222", after := #[], guard := none }) (v := ?_) rfl (by kernel_rfl) (by kernel_rfl) (by kernel_rfl) (fun _ _ _ h => h) (Or.inl ⟨by rfl, ?_⟩) (by assumption) ?_
                    rotate_left
                    · intro w hSw
                      (try dsimp only at hSw)
                      go_simp
                      try with_reducible rfl
                    try simp only [Act.put, List.setIfInBounds_toArray, List.set_cons_zero, List.set_cons_succ]
                    refine wpAnyH_take (i := 2) (oi := { dst := some 54, op := Op.load 26 (Operand.tmp 13), type := 26, pos := "law.go:222", after := #[], guard := none }) (v := ?_) rfl (by kernel_rfl) (by kernel_rfl) (by kernel_rfl) (fun _ _ _ h => h) (Or.inl ⟨by rfl, ?_⟩) (by assumption) ?_
                    rotate_left
                    · intro w hSw
                      (try dsimp only at hSw)
                      go_simp
                      try with_reducible rfl
                    try simp only [Act.put, List.setIfInBounds_toArray, List.set_cons_zero, List.set_cons_succ]
                    refine wpAnyH_take (i := 5) (oi := { dst := some 57, op := Op.move (Operand.tmp 5), type := 23, pos := "law.go:222", after := #[], guard := none }) (v := ?_) rfl (by kernel_rfl) (by kernel_rfl) (by kernel_rfl) (fun _ _ _ h => h) (Or.inl ⟨by rfl, ?_⟩) (by assumption) ?_
                    rotate_left
                    · intro w hSw
                      (try dsimp only at hSw)
                      go_simp
                      try with_reducible rfl
                    try simp only [Act.put, List.setIfInBounds_toArray, List.set_cons_zero, List.set_cons_succ]
                    refine wpAnyH_take (i := 7) (oi := { dst := some 59, op := Op.move (Operand.tmp 6), type := 3, pos := "law.go:222", after := #[], guard := none }) (v := ?_) rfl (by kernel_rfl) (by kernel_rfl) (by kernel_rfl) (fun _ _ _ h => h) (Or.inl ⟨by rfl, ?_⟩) (by assumption) ?_
                    rotate_left
                    · intro w hSw
                      (try dsimp only at hSw)
                      go_simp
                      try with_reducible rfl
                    try simp only [Act.put, List.setIfInBounds_toArray, List.set_cons_zero, List.set_cons_succ]
                    refine wpAnyH_ready (rs := [1, 3, 8]) (by kernel_rfl) (by simp) ?_
                    refine AllReadyH.cons (o := { dst := some 53, op := Op.call { callee := Callee.value (Operand.func 37), args := #[Operand.tmp 52], argTypes := #[28] }, type := 28, pos := "law.go:222", after := _, guard := none }) rfl (fun K hK => ?_) ?_
                    · go_simp
                      refine (HCL.out _ (bel_drewN (Below.refl w5.heap.size w5) 1)).mono ?_
                      rintro eC wC ⟨pC, nC, cC, rfl, hoC, hbC⟩
                      have HB1 : Hid (Below w5.heap.size w5 wC) := hide ((bel_drewN (Below.refl w5.heap.size w5) 1).trans (hbC.mono (bel_drewN (Below.refl w5.heap.size w5) 1).size))
                      have HC := hide (hoC.mono (bel_drewN (Below.refl w5.heap.size w5) 1).size)
                      clear hoC hbC
                      first
                        | refine hK.out _ _ ?_ (fun hHeld => ?_)
                        | (go_wp2_with fail; refine hK.out _ _ ?_ (fun hHeld => ?_))
                      · exact KEEP.out _ HB1.out
                      clear hK K
                      try simp only [Act.put, List.setIfInBounds_toArray, List.set_cons_zero, List.set_cons_succ]
                      refine wpAnyH_ready (rs := [3, 8]) (by kernel_rfl) (by simp) ?_
                      refine AllReadyH.cons (o := { dst := some 55, op := Op.buildSlice 28 1 #[(0, Operand.tmp 54)], type := 28, pos := "law.go:222", after := _, guard := none }) rfl (fun K hK => ?_) ?_
                      · have HB3 : Hid (Below w5.heap.size w5 (wC.alloc (objY y))) := hide (HB1.out.trans ((bel_al wC (objY y)).mono HB1.out.size))
                        have HC := hide (HC.out.below (bel_al wC (objY y)))
                        have HM : Hid (Mcs (wC.alloc (objY y)) (.slice (some ⟨wC.heap.size, 0, none⟩) 1 1) [y]) := hide (by have h := mcs_lit wC y; first | exact h | (simp only [size_alloc'] at h; exact h))
                        go_simp
                        first
                          | refine hK.out _ _ ?_ (fun hHeld => ?_)
                          | (go_wp2_with fail; refine hK.out _ _ ?_ (fun hHeld => ?_))
                        · exact KEEP.out _ HB3.out
                        clear hK K
                        try simp only [Act.put, List.setIfInBounds_toArray, List.set_cons_zero, List.set_cons_succ]
                        refine wpAnyH_ready (rs := [4, 8]) (by kernel_rfl) (by simp) ?_
                        refine AllReadyH.cons (o := { dst := some 56, op := Op.call { callee := Callee.builtin Builtin.append, args := #[Operand.tmp 53, Operand.tmp 55], argTypes := #[28, 28] }, type := 28, pos := "law.go:222", after := _, guard := none }) rfl (fun K hK => ?_) ?_
                        · refine step_pushesM (by rfl) _ _ (by rfl) (by rfl) (by rfl) (by rfl) HC.out HM.out (HB3.out.size) (by have := HTL.out; simp; omega) ?_
                          intro vA wA hoA hbA hgA
                          obtain ⟨pA, nA, cA, rfl⟩ := hoA.mcs.sl
                          have HB4 : Hid (Below w5.heap.size w5 wA) := hide (HB3.out.grown hgA HB3.out.size fun k hk => (HC.out.lt k hk).1)
                          have HA := hide hoA
                          clear hoA hbA hgA
                          first
                            | refine hK.out _ _ ?_ (fun hHeld => ?_)
                            | (go_wp2_with fail; refine hK.out _ _ ?_ (fun hHeld => ?_))
                          · exact KEEP.out _ HB4.out
                          clear hK K
                          try simp only [Act.put, List.setIfInBounds_toArray, List.set_cons_zero, List.set_cons_succ]
                          refine wpAnyH_ready (rs := [6, 8]) (by kernel_rfl) (by simp) ?_
                          refine AllReadyH.cons (o := { dst := some 58, op := Op.call { callee := Callee.value (Operand.func 39), args := #[Operand.tmp 57], argTypes := #[23] }, type := 23, pos := "law.go:222", after := _, guard := none }) rfl (fun K hK => ?_) ?_
                          · go_simp
                            refine (HCI.out _ HB4.out).mono ?_
                            rintro eN wN ⟨pN, nN, cN, rfl, hoN, hbN⟩
                            have HB6 : Hid (Below w5.heap.size w5 wN) := hide (HB4.out.trans (hbN.mono HB4.out.size))
                            have HA := hide (HA.out.below hbN)
                            have HN := hide (hoN.mono HB4.out.size)
                            clear hoN hbN
                            first
                              | refine hK.out _ _ ?_ (fun hHeld => ?_)
                              | (go_wp2_with fail; refine hK.out _ _ ?_ (fun hHeld => ?_))
                            · exact KEEP.out _ HB6.out
                            clear hK K
                            try simp only [Act.put, List.setIfInBounds_toArray, List.set_cons_zero, List.set_cons_succ]
                            refine wpAnyH_ready (rs := [8]) (by kernel_rfl) (by simp) ?_
                            refine AllReadyH.cons (o := { dst := some 60, op := Op.buildSlice 23 1 #[(0, Operand.tmp 59)], type := 23, pos := "law.go:222", after := _, guard := none }) rfl (fun K hK => ?_) AllReadyH.nil
                            have HB8 : Hid (Below w5.heap.size w5 (wN.alloc (.cells #[.int .i64 la1] 3))) := hide (HB6.out.trans ((bel_al wN (.cells #[.int .i64 la1] 3)).mono HB6.out.size))
                            have HA := hide (HA.out.below (bel_al wN (.cells #[.int .i64 la1] 3)))
                            have HN := hide (HN.out.below (bel_al wN (.cells #[.int .i64 la1] 3)))
                            have HL : Hid (OwnN 0 (wN.alloc (.cells #[.int .i64 la1] 3)) (.slice (some ⟨wN.heap.size, 0, none⟩) 1 1) [la1]) := hide (by have h := ownN_lit wN la1 HFL.out; first | exact h | (simp only [size_alloc'] at h; exact h))
                            go_simp
                            first
                              | refine hK.out _ _ ?_ (fun hHeld => ?_)
                              | (go_wp2_with fail; refine hK.out _ _ ?_ (fun hHeld => ?_))
                            · exact KEEP.out _ HB8.out
                            clear hK K
                            try simp only [Act.put, List.setIfInBounds_toArray, List.set_cons_zero, List.set_cons_succ]
                            refine wpAnyH_ready (rs := [9]) (by kernel_rfl) (by simp) ?_
                            refine AllReadyH.cons (o := { dst := some 61, op := Op.call { callee := Callee.builtin Builtin.append, args := #[Operand.tmp 58, Operand.tmp 60], argTypes := #[23, 23] }, type := 23, pos := "law.go:222", after := _, guard := none }) rfl (fun K hK => ?_) AllReadyH.nil
                            refine step_pushN_at (by rfl) _ _ (by rfl) (by rfl) la1 (by rfl) (by rfl) HL.out.lit_cell HN.out HFL.out (HB8.out.size) (by have := HTL.out; omega) ?_
                            intro vZ wZ hoZ hgZ hbZ
                            obtain ⟨pZ, nZ, cZ, rfl⟩ := hoZ.ns.sl
                            have HB9 : Hid (Below w5.heap.size w5 wZ) := hide (HB8.out.grown hgZ HB8.out.size fun k hk => (HN.out.lt k hk).1)
                            have HA := hide (HA.out.grown' HN.out hgZ)
                            have HZ9 := hide hoZ
                            clear hoZ hbZ hgZ
                            first
                              | refine hK.out _ _ ?_ (fun hHeld => ?_)
                              | (go_wp2_with fail; refine hK.out _ _ ?_ (fun hHeld => ?_))
                            · exact KEEP.out _ HB9.out
                            clear hK K
                            try simp only [Act.put, List.setIfInBounds_toArray, List.set_cons_zero, List.set_cons_succ]
                            refine wpAnyH_take (i := 10) (oi := { dst := some 4, op := Op.assign (Operand.tmp 56), type := 28, pos := "law.go:222", after := _, guard := none }) (v := ?_) rfl (by kernel_rfl) (by kernel_rfl) (by kernel_rfl) (fun _ _ _ h => h) (Or.inl ⟨by rfl, ?_⟩) (by assumption) ?_
                            rotate_left
                            · intro w hSw
                              (try dsimp only at hSw)
                              go_simp
                              try with_reducible rfl
                            try simp only [Act.put, List.setIfInBounds_toArray, List.set_cons_zero, List.set_cons_succ]
                            refine wpAnyH_take (i := 11) (oi := { dst := some 5, op := Op.assign (Operand.tmp 61), type := 23, pos := "law.go:222", after := _, guard := none }) (v := ?_) rfl (by kernel_rfl) (by kernel_rfl) (by kernel_rfl) (fun _ _ _ h => h) (Or.inl ⟨by rfl, ?_⟩) (by assumption) ?_
                            rotate_left
                            · intro w hSw
                              (try dsimp only at hSw)
                              go_simp
                              try with_reducible rfl
                            try simp only [Act.put, List.setIfInBounds_toArray, List.set_cons_zero, List.set_cons_succ]
                            refine wpAnyH_done (by kernel_rfl) ?_ _
                            have HQZ : Hid (Kq w wZ B2 g vb5 (.slice pA nA cA) (.slice pZ nZ cZ) ⟨x'.last + 1, x'.ps ++ [(x'.last + 1, y.m)]⟩ (T' ++ [y]) (I' ++ [x'.last + 1])) := hide ((HQ5.out.below HB9.out).rows (HA.out.mono HQ5.out.bB) (by have h := HZ9.out.mono HQ5.out.bB; rw [← HLA1.out] at h; exact h) fun z hz => by
                              rcases List.mem_append.1 hz with hz | hz
                              · exact HQ5.out.tv z hz
                              · simp at hz; subst hz; exact HY.out)
                            have HKZ := hide (HS.out.2.1.add y)
                            clear HA HZ9 HB9
                            go_wp2
                            go_roundw
                            case rel => exact ⟨i + 1, vb5, ⟨x'.last + 1, x'.ps ++ [(x'.last + 1, y.m)]⟩, T' ++ [y], I' ++ [x'.last + 1], by omega, by go_num, (by rw [← HLA1.out]), ⟨_, _, _, rfl⟩, ⟨_, _, _, rfl⟩, hide ⟨HQZ.out, HKZ.out, by have := HS.out.2.2; rw [List.length_append]; simp; omega⟩⟩
                            case measure => simp [intOf]; omega
                          refine AllReadyH.cons (o := { dst := some 60, op := Op.buildSlice 23 1 #[(0, Operand.tmp 59)], type := 23, pos := "law.go:222", after := _, guard := none }) rfl (fun K hK => ?_) AllReadyH.nil
                          have HB8 : Hid (Below w5.heap.size w5 (wA.alloc (.cells #[.int .i64 la1] 3))) := hide (HB4.out.trans ((bel_al wA (.cells #[.int .i64 la1] 3)).mono HB4.out.size))
                          have HA := hide (HA.out.below (bel_al wA (.cells #[.int .i64 la1] 3)))
                          have HL : Hid (OwnN 0 (wA.alloc (.cells #[.int .i64 la1] 3)) (.slice (some ⟨wA.heap.size, 0, none⟩) 1 1) [la1]) := hide (by have h := ownN_lit wA la1 HFL.out; first | exact h | (simp only [size_alloc'] at h; exact h))
                          go_simp
                          first
                            | refine hK.out _ _ ?_ (fun hHeld => ?_)
                            | (go_wp2_with fail; refine hK.out _ _ ?_ (fun hHeld => ?_))
                          · exact KEEP.out _ HB8.out
                          clear hK K
                          try simp only [Act.put, List.setIfInBounds_toArray, List.set_cons_zero, List.set_cons_succ]
                          refine wpAnyH_ready (rs := [6]) (by kernel_rfl) (by simp) ?_
                          refine AllReadyH.cons (o := { dst := some 58, op := Op.call { callee := Callee.value (Operand.func 39), args := #[Operand.tmp 57], argTypes := #[23] }, type := 23, pos := "law.go:222", after := _, guard := none }) rfl (fun K hK => ?_) AllReadyH.nil
                          go_simp
                          refine (HCI.out _ HB8.out).mono ?_
                          rintro eN wN ⟨pN, nN, cN, rfl, hoN, hbN⟩
                          have HB6 : Hid (Below w5.heap.size w5 wN) := hide (HB8.out.trans (hbN.mono HB8.out.size))
                          have HA := hide (HA.out.below hbN)
                          have HL := hide (HL.out.below hbN)
                          have HN := hide (hoN.mono HB8.out.size)
                          clear hoN hbN
                          first
                            | refine hK.out _ _ ?_ (fun hHeld => ?_)
                            | (go_wp2_with fail; refine hK.out _ _ ?_ (fun hHeld => ?_))
                          · exact KEEP.out _ HB6.out
                          clear hK K
                          try simp only [Act.put, List.setIfInBounds_toArray, List.set_cons_zero, List.set_cons_succ]
                          refine wpAnyH_ready (rs := [9]) (by kernel_rfl) (by simp) ?_
                          refine AllReadyH.cons (o := { dst := some 61, op := Op.call { callee := Callee.builtin Builtin.append, args := #[Operand.tmp 58, Operand.tmp 60], argTypes := #[23, 23] }, type := 23, pos := "law.go:222", after := _, guard := none }) rfl (fun K hK => ?_) AllReadyH.nil
                          refine step_pushN_at (by rfl) _ _ (by rfl) (by rfl) la1 (by rfl) (by rfl) HL.out.lit_cell HN.out HFL.out (HB6.out.size) (by have := HTL.out; omega) ?_
                          intro vZ wZ hoZ hgZ hbZ
                          obtain ⟨pZ, nZ, cZ, rfl⟩ := hoZ.ns.sl
                          have HB9 : Hid (Below w5.heap.size w5 wZ) := hide (HB6.out.grown hgZ HB6.out.size fun k hk => (HN.out.lt k hk).1)
                          have HA := hide (HA.out.grown' HN.out hgZ)
                          have HZ9 := hide hoZ
                          clear hoZ hbZ hgZ
                          first
                            | refine hK.out _ _ ?_ (fun hHeld => ?_)
                            | (go_wp2_with fail; refine hK.out _ _ ?_ (fun hHeld => ?_))
                          · exact KEEP.out _ HB9.out
                          clear hK K
                          try simp only [Act.put, List.setIfInBounds_toArray, List.set_cons_zero, List.set_cons_succ]
                          refine wpAnyH_take (i := 10) (oi := { dst := some 4, op := Op.assign (Operand.tmp 56), type := 28, pos := "law.go:222", after := _, guard := none }) (v := ?_) rfl (by kernel_rfl) (by kernel_rfl) (by kernel_rfl) (fun _ _ _ h => h) (Or.inl ⟨by rfl, ?_⟩) (by assumption) ?_
                          rotate_left
                          · intro w hSw
                            (try dsimp only at hSw)
                            go_simp
                            try with_reducible rfl
                          try simp only [Act.put, List.setIfInBounds_toArray, List.set_cons_zero, List.set_cons_succ]
                          refine wpAnyH_take (i := 11) (oi := { dst := some 5, op := Op.assign (Operand.tmp 61), type := 23, pos := "law.go:222", after := _, guard := none }) (v := ?_) rfl (by kernel_rfl) (by kernel_rfl) (by kernel_rfl) (fun _ _ _ h => h) (Or.inl ⟨by rfl, ?_⟩) (by assumption) ?_
                          rotate_left
                          · intro w hSw
                            (try dsimp only at hSw)
                            go_simp
                            try with_reducible rfl
                          try simp only [Act.put, List.setIfInBounds_toArray, List.set_cons_zero, List.set_cons_succ]
                          refine wpAnyH_done (by kernel_rfl) ?_ _
                          have HQZ : Hid (Kq w wZ B2 g vb5 (.slice pA nA cA) (.slice pZ nZ cZ) ⟨x'.last + 1, x'.ps ++ [(x'.last + 1, y.m)]⟩ (T' ++ [y]) (I' ++ [x'.last + 1])) := hide ((HQ5.out.below HB9.out).rows (HA.out.mono HQ5.out.bB) (by have h := HZ9.out.mono HQ5.out.bB; rw [← HLA1.out] at h; exact h) fun z hz => by
                            rcases List.mem_append.1 hz with hz | hz
                            · exact HQ5.out.tv z hz
                            · simp at hz; subst hz; exact HY.out)
                          have HKZ := hide (HS.out.2.1.add y)
                          clear HA HZ9 HB9
                          go_wp2
                          go_roundw
                          case rel => exact ⟨i + 1, vb5, ⟨x'.last + 1, x'.ps ++ [(x'.last + 1, y.m)]⟩, T' ++ [y], I' ++ [x'.last + 1], by omega, by go_num, (by rw [← HLA1.out]), ⟨_, _, _, rfl⟩, ⟨_, _, _, rfl⟩, hide ⟨HQZ.out, HKZ.out, by have := HS.out.2.2; rw [List.length_append]; simp; omega⟩⟩
                          case measure => simp [intOf]; omega
                        refine AllReadyH.cons (o := { dst := some 60, op := Op.buildSlice 23 1 #[(0, Operand.tmp 59)], type := 23, pos := "law.go:222", after := _, guard := none }) rfl (fun K hK => ?_) AllReadyH.nil
                        have HB8 : Hid (Below w5.heap.size w5 ((wC.alloc (objY y)).alloc (.cells #[.int .i64 la1] 3))) := hide (HB3.out.trans ((bel_al (wC.alloc (objY y)) (.cells #[.int .i64 la1] 3)).mono HB3.out.size))
                        have HC := hide (HC.out.below (bel_al (wC.alloc (objY y)) (.cells #[.int .i64 la1] 3)))
                        have HM := hide (HM.out.below (bel_al (wC.alloc (objY y)) (.cells #[.int .i64 la1] 3)))
                        have HL : Hid (OwnN 0 ((wC.alloc (objY y)).alloc (.cells #[.int .i64 la1] 3)) (.slice (some ⟨wC.heap.size + 1, 0, none⟩) 1 1) [la1]) := hide (by have h := ownN_lit (wC.alloc (objY y)) la1 HFL.out; first | exact h | (simp only [size_alloc'] at h; exact h))
                        go_simp
                        first
                          | refine hK.out _ _ ?_ (fun hHeld => ?_)
                          | (go_wp2_with fail; refine hK.out _ _ ?_ (fun hHeld => ?_))
                        · exact KEEP.out _ HB8.out
                        clear hK K
                        try simp only [Act.put, List.setIfInBounds_toArray, List.set_cons_zero, List.set_cons_succ]
                        refine wpAnyH_ready (rs := [4]) (by kernel_rfl) (by simp) ?_
                        refine AllReadyH.cons (o := { dst := some 56, op := Op.call { callee := Callee.builtin Builtin.append, args := #[Operand.tmp 53, Operand.tmp 55], argTypes := #[28, 28] }, type := 28, pos := "law.go:222", after := _, guard := none }) rfl (fun K hK => ?_) AllReadyH.nil
                        refine step_pushesM (by rfl) _ _ (by rfl) (by rfl) (by rfl) (by rfl) HC.out HM.out (HB8.out.size) (by have := HTL.out; simp; omega) ?_
                        intro vA wA hoA hbA hgA
                        obtain ⟨pA, nA, cA, rfl⟩ := hoA.mcs.sl
                        have HB4 : Hid (Below w5.heap.size w5 wA) := hide (HB8.out.grown hgA HB8.out.size fun k hk => (HC.out.lt k hk).1)
                        have HL := hide (HL.out.grown' HC.out hgA)
                        have HA := hide hoA
                        clear hoA hbA hgA
                        first
                          | refine hK.out _ _ ?_ (fun hHeld => ?_)
                          | (go_wp2_with fail; refine hK.out _ _ ?_ (fun hHeld => ?_))
                        · exact KEEP.out _ HB4.out
                        clear hK K
                        try simp only [Act.put, List.setIfInBounds_toArray, List.set_cons_zero, List.set_cons_succ]
                        refine wpAnyH_ready (rs := [6]) (by kernel_rfl) (by simp) ?_
                        refine AllReadyH.cons (o := { dst := some 58, op := Op.call { callee := Callee.value (Operand.func 39), args := #[Operand.tmp 57], argTypes := #[23] }, type := 23, pos := "law.go:222", after := _, guard := none }) rfl (fun K hK => ?_) AllReadyH.nil
                        go_simp
                        refine (HCI.out _ HB4.out).mono ?_
                        rintro eN wN ⟨pN, nN, cN, rfl, hoN, hbN⟩
                        have HB6 : Hid (Below w5.heap.size w5 wN) := hide (HB4.out.trans (hbN.mono HB4.out.size))
                        have HA := hide (HA.out.below hbN)
                        have HL := hide (HL.out.below hbN)
                        have HN := hide (hoN.mono HB4.out.size)
                        clear hoN hbN
                        first
                          | refine hK.out _ _ ?_ (fun hHeld => ?_)
                          | (go_wp2_with fail; refine hK.out _ _ ?_ (fun hHeld => ?_))
                        · exact KEEP.out _ HB6.out
                        clear hK K
                        try simp only [Act.put, List.setIfInBounds_toArray, List.set_cons_zero, List.set_cons_succ]
                        refine wpAnyH_ready (rs := [9]) (by kernel_rfl) (by simp) ?_
                        refine AllReadyH.cons (o := { dst := some 61, op := Op.call { callee := Callee.builtin Builtin.append, args := #[Operand.tmp 58, Operand.tmp 60], argTypes := #[23, 23] }, type := 23, pos := "law.go:222", after := _, guard := none }) rfl (fun K hK => ?_) AllReadyH.nil
                        refine step_pushN_at (by rfl) _ _ (by rfl) (by rfl) la1 (by rfl) (by rfl) HL.out.lit_cell HN.out HFL.out (HB6.out.size) (by have := HTL.out; omega) ?_
                        intro vZ wZ hoZ hgZ hbZ
                        obtain ⟨pZ, nZ, cZ, rfl⟩ := hoZ.ns.sl
                        have HB9 : Hid (Below w5.heap.size w5 wZ) := hide (HB6.out.grown hgZ HB6.out.size fun k hk => (HN.out.lt k hk).1)
                        have HA := hide (HA.out.grown' HN.out hgZ)
                        have HZ9 := hide hoZ
                        clear hoZ hbZ hgZ
                        first
                          | refine hK.out _ _ ?_ (fun hHeld => ?_)
                          | (go_wp2_with fail; refine hK.out _ _ ?_ (fun hHeld => ?_))
                        · exact KEEP.out _ HB9.out
                        clear hK K
                        try simp only [Act.put, List.setIfInBounds_toArray, List.set_cons_zero, List.set_cons_succ]
                        refine wpAnyH_take (i := 10) (oi := { dst := some 4, op := Op.assign (Operand.tmp 56), type := 28, pos := "law.go:222", after := _, guard := none }) (v := ?_) rfl (by kernel_rfl) (by kernel_rfl) (by kernel_rfl) (fun _ _ _ h => h) (Or.inl ⟨by rfl, ?_⟩) (by assumption) ?_
                        rotate_left
                        · intro w hSw
                          (try dsimp only at hSw)
                          go_simp
                          try with_reducible rfl
                        try simp only [Act.put, List.setIfInBounds_toArray, List.set_cons_zero, List.set_cons_succ]
                        refine wpAnyH_take (i := 11) (oi := { dst := some 5, op := Op.assign (Operand.tmp 61), type := 23, pos := "law.go:222", after := _, guard := none }) (v := ?_) rfl (by kernel_rfl) (by kernel_rfl) (by kernel_rfl) (fun _ _ _ h => h) (Or.inl ⟨by rfl, ?_⟩) (by assumption) ?_
                        rotate_left
                        · intro w hSw
                          (try dsimp only at hSw)
                          go_simp
                          try with_reducible rfl
                        try simp only [Act.put, List.setIfInBounds_toArray, List.set_cons_zero, List.set_cons_succ]
                        refine wpAnyH_done (by kernel_rfl) ?_ _
                        have HQZ : Hid (Kq w wZ B2 g vb5 (.slice pA nA cA) (.slice pZ nZ cZ) ⟨x'.last + 1, x'.ps ++ [(x'.last + 1, y.m)]⟩ (T' ++ [y]) (I' ++ [x'.last + 1])) := hide ((HQ5.out.below HB9.out).rows (HA.out.mono HQ5.out.bB) (by have h := HZ9.out.mono HQ5.out.bB; rw [← HLA1.out] at h; exact h) fun z hz => by
                          rcases List.mem_append.1 hz with hz | hz
                          · exact HQ5.out.tv z hz
                          · simp at hz; subst hz; exact HY.out)
                        have HKZ := hide (HS.out.2.1.add y)
                        clear HA HZ9 HB9
                        go_wp2
                        go_roundw
                        case rel => exact ⟨i + 1, vb5, ⟨x'.last + 1, x'.ps ++ [(x'.last + 1, y.m)]⟩, T' ++ [y], I' ++ [x'.last + 1], by omega, by go_num, (by rw [← HLA1.out]), ⟨_, _, _, rfl⟩, ⟨_, _, _, rfl⟩, hide ⟨HQZ.out, HKZ.out, by have := HS.out.2.2; rw [List.length_append]; simp; omega⟩⟩
                        case measure => simp [intOf]; omega
                      refine AllReadyH.cons (o := { dst := some 60, op := Op.buildSlice 23 1 #[(0, Operand.tmp 59)], type := 23, pos := "law.go:222", after := _, guard := none }) rfl (fun K hK => ?_) AllReadyH.nil
                      have HB8 : Hid (Below w5.heap.size w5 (wC.alloc (.cells #[.int .i64 la1] 3))) := hide (HB1.out.trans ((bel_al wC (.cells #[.int .i64 la1] 3)).mono HB1.out.size))
                      have HC := hide (HC.out.below (bel_al wC (.cells #[.int .i64 la1] 3)))
                      have HL : Hid (OwnN 0 (wC.alloc (.cells #[.int .i64 la1] 3)) (.slice (some ⟨wC.heap.size, 0, none⟩) 1 1) [la1]) := hide (by have h := ownN_lit wC la1 HFL.out; first | exact h | (simp only [size_alloc'] at h; exact h))
                      go_simp
                      first
                        | refine hK.out _ _ ?_ (fun hHeld => ?_)
                        | (go_wp2_with fail; refine hK.out _ _ ?_ (fun hHeld => ?_))
                      · exact KEEP.out _ HB8.out
                      clear hK K
                      try simp only [Act.put, List.setIfInBounds_toArray, List.set_cons_zero, List.set_cons_succ]
                      refine wpAnyH_ready (rs := [3]) (by kernel_rfl) (by simp) ?_
                      refine AllReadyH.cons (o := { dst := some 55, op := Op.buildSlice 28 1 #[(0, Operand.tmp 54)], type := 28, pos := "law.go:222", after := _, guard := none }) rfl (fun K hK => ?_) AllReadyH.nil
                      have HB3 : Hid (Below w5.heap.size w5 ((wC.alloc (.cells #[.int .i64 la1] 3)).alloc (objY y))) := hide (HB8.out.trans ((bel_al (wC.alloc (.cells #[.int .i64 la1] 3)) (objY y)).mono HB8.out.size))
                      have HC := hide (HC.out.below (bel_al (wC.alloc (.cells #[.int .i64 la1] 3)) (objY y)))
                      have HL := hide (HL.out.below (bel_al (wC.alloc (.cells #[.int .i64 la1] 3)) (objY y)))
                      have HM : Hid (Mcs ((wC.alloc (.cells #[.int .i64 la1] 3)).alloc (objY y)) (.slice (some ⟨wC.heap.size + 1, 0, none⟩) 1 1) [y]) := hide (by have h := mcs_lit (wC.alloc (.cells #[.int .i64 la1] 3)) y; first | exact h | (simp only [size_alloc'] at h; exact h))
                      go_simp
                      first
                        | refine hK.out _ _ ?_ (fun hHeld => ?_)
                        | (go_wp2_with fail; refine hK.out _ _ ?_ (fun hHeld => ?_))
                      · exact KEEP.out _ HB3.out
                      clear hK K
                      try simp only [Act.put, List.setIfInBounds_toArray, List.set_cons_zero, List.set_cons_succ]
                      refine wpAnyH_ready (rs := [4]) (by kernel_rfl) (by simp) ?_
                      refine AllReadyH.cons (o := { dst := some 56, op := Op.call { callee := Callee.builtin Builtin.append, args := #[Operand.tmp 53, Operand.tmp 55], argTypes := #[28, 28] }, type := 28, pos := "law.go:222", after := _, guard := none }) rfl (fun K hK => ?_) AllReadyH.nil
                      refine step_pushesM (by rfl) _ _ (by rfl) (by rfl) (by rfl) (by rfl) HC.out HM.out (HB3.out.size) (by have := HTL.out; simp; omega) ?_
                      intro vA wA hoA hbA hgA
                      obtain ⟨pA, nA, cA, rfl⟩ := hoA.mcs.sl
                      have HB4 : Hid (Below w5.heap.size w5 wA) := hide (HB3.out.grown hgA HB3.out.size fun k hk => (HC.out.lt k hk).1)
                      have HL := hide (HL.out.grown' HC.out hgA)
                      have HA := hide hoA
                      clear hoA hbA hgA
                      first
                        | refine hK.out _ _ ?_ (fun hHeld => ?_)
                        | (go_wp2_with fail; refine hK.out _ _ ?_ (fun hHeld => ?_))
                      · exact KEEP.out _ HB4.out
                      clear hK K
                      try simp only [Act.put, List.setIfInBounds_toArray, List.set_cons_zero, List.set_cons_succ]
                      refine wpAnyH_ready (rs := [6]) (by kernel_rfl) (by simp) ?_
                      refine AllReadyH.cons (o := { dst := some 58, op := Op.call { callee := Callee.value (Operand.func 39), args := #[Operand.tmp 57], argTypes := #[23] }, type := 23, pos := "law.go:222", after := _, guard := none }) rfl (fun K hK => ?_) AllReadyH.nil
                      go_simp
                      refine (HCI.out _ HB4.out).mono ?_
                      rintro eN wN ⟨pN, nN, cN, rfl, hoN, hbN⟩
                      have HB6 : Hid (Below w5.heap.size w5 wN) := hide (HB4.out.trans (hbN.mono HB4.out.size))
                      have HA := hide (HA.out.below hbN)
                      have HL := hide (HL.out.below hbN)
                      have HN := hide (hoN.mono HB4.out.size)
                      clear hoN hbN
                      first
                        | refine hK.out _ _ ?_ (fun hHeld => ?_)
                        | (go_wp2_with fail; refine hK.out _ _ ?_ (fun hHeld => ?_))
                      · exact KEEP.out _ HB6.out
                      clear hK K
                      try simp only [Act.put, List.setIfInBounds_toArray, List.set_cons_zero, List.set_cons_succ]
                      refine wpAnyH_ready (rs := [9]) (by kernel_rfl) (by simp) ?_
                      refine AllReadyH.cons (o := { dst := some 61, op := Op.call { callee := Callee.builtin Builtin.append, args := #[Operand.tmp 58, Operand.tmp 60], argTypes := #[23, 23] }, type := 23, pos := "law.go:222", after := _, guard := none }) rfl (fun K hK => ?_) AllReadyH.nil
                      refine step_pushN_at (by rfl) _ _ (by rfl) (by rfl) la1 (by rfl) (by rfl) HL.out.lit_cell HN.out HFL.out (HB6.out.size) (by have := HTL.out; omega) ?_
                      intro vZ wZ hoZ hgZ hbZ
                      obtain ⟨pZ, nZ, cZ, rfl⟩ := hoZ.ns.sl
                      have HB9 : Hid (Below w5.heap.size w5 wZ) := hide (HB6.out.grown hgZ HB6.out.size fun k hk => (HN.out.lt k hk).1)
                      have HA := hide (HA.out.grown' HN.out hgZ)
                      have HZ9 := hide hoZ
                      clear hoZ hbZ hgZ
                      first
                        | refine hK.out _ _ ?_ (fun hHeld => ?_)
                        | (go_wp2_with fail; refine hK.out _ _ ?_ (fun hHeld => ?_))
                      · exact KEEP.out _ HB9.out
                      clear hK K
                      try simp only [Act.put, List.setIfInBounds_toArray, List.set_cons_zero, List.set_cons_succ]
                      refine wpAnyH_take (i := 10) (oi := { dst := some 4, op := Op.assign (Operand.tmp 56), type := 28, pos := "law.go:222", after := _, guard := none }) (v := ?_) rfl (by kernel_rfl) (by kernel_rfl) (by kernel_rfl) (fun _ _ _ h => h) (Or.inl ⟨by rfl, ?_⟩) (by assumption) ?_
                      rotate_left
                      · intro w hSw
                        (try dsimp only at hSw)
                        go_simp
                        try with_reducible rfl
                      try simp only [Act.put, List.setIfInBounds_toArray, List.set_cons_zero, List.set_cons_succ]
                      refine wpAnyH_take (i := 11) (oi := { dst := some 5, op := Op.assign (Operand.tmp 61), type := 23, pos := "law.go:222", after := _, guard := none }) (v := ?_) rfl (by kernel_rfl) (by kernel_rfl) (by kernel_rfl) (fun _ _ _ h => h) (Or.inl ⟨by rfl, ?_⟩) (by assumption) ?_
                      rotate_left
                      · intro w hSw
                        (try dsimp only at hSw)
                        go_simp
                        try with_reducible rfl
                      try simp only [Act.put, List.setIfInBounds_toArray, List.set_cons_zero, List.set_cons_succ]
                      refine wpAnyH_done (by kernel_rfl) ?_ _
                      have HQZ : Hid (Kq w wZ B2 g vb5 (.slice pA nA cA) (.slice pZ nZ cZ) ⟨x'.last + 1, x'.ps ++ [(x'.last + 1, y.m)]⟩ (T' ++ [y]) (I' ++ [x'.last + 1])) := hide ((HQ5.out.below HB9.out).rows (HA.out.mono HQ5.out.bB) (by have h := HZ9.out.mono HQ5.out.bB; rw [← HLA1.out] at h; exact h) fun z hz => by
                        rcases List.mem_append.1 hz with hz | hz
                        · exact HQ5.out.tv z hz
                        · simp at hz; subst hz; exact HY.out)
                      have HKZ := hide (HS.out.2.1.add y)
                      clear HA HZ9 HB9
                      go_wp2
                      go_roundw
                      case rel => exact ⟨i + 1, vb5, ⟨x'.last + 1, x'.ps ++ [(x'.last + 1, y.m)]⟩, T' ++ [y], I' ++ [x'.last + 1], by omega, by go_num, (by rw [← HLA1.out]), ⟨_, _, _, rfl⟩, ⟨_, _, _, rfl⟩, hide ⟨HQZ.out, HKZ.out, by have := HS.out.2.2; rw [List.length_append]; simp; omega⟩⟩
                      case measure => simp [intOf]; omega
                    refine AllReadyH.cons (o := { dst := some 55, op := Op.buildSlice 28 1 #[(0, Operand.tmp 54)], type := 28, pos := "law.go:222", after := _, guard := none }) rfl (fun K hK => ?_) ?_
                    · have HB3 : Hid (Below w5.heap.size w5 (w5.alloc (objY y)).drew) := hide ((bel_drewN (Below.refl w5.heap.size w5) 1).trans ((bel_ad w5 (objY y)).mono (bel_drewN (Below.refl w5.heap.size w5) 1).size))
                      have HM : Hid (Mcs (w5.alloc (objY y)).drew (.slice (some ⟨w5.heap.size, 0, none⟩) 1 1) [y]) := hide (by have h := mcs_lit w5 y; first | exact h | (simp only [size_alloc'] at h; exact h))
                      go_simp
                      first
                        | refine hK.out _ _ ?_ (fun hHeld => ?_)
                        | (go_wp2_with fail; refine hK.out _ _ ?_ (fun hHeld => ?_))
                      · exact KEEP.out _ HB3.out
                      clear hK K
                      try simp only [Act.put, List.setIfInBounds_toArray, List.set_cons_zero, List.set_cons_succ]
                      refine wpAnyH_ready (rs := [1, 8]) (by kernel_rfl) (by simp) ?_
                      refine AllReadyH.cons (o := { dst := some 53, op := Op.call { callee := Callee.value (Operand.func 37), args := #[Operand.tmp 52], argTypes := #[28] }, type := 28, pos := "law.go:222", after := _, guard := none }) rfl (fun K hK => ?_) ?_
                      · go_simp
                        refine (HCL.out _ HB3.out).mono ?_
                        rintro eC wC ⟨pC, nC, cC, rfl, hoC, hbC⟩
                        have HB1 : Hid (Below w5.heap.size w5 wC) := hide (HB3.out.trans (hbC.mono HB3.out.size))
                        have HM := hide (HM.out.below hbC)
                        have HC := hide (hoC.mono HB3.out.size)
                        clear hoC hbC
                        first
                          | refine hK.out _ _ ?_ (fun hHeld => ?_)
                          | (go_wp2_with fail; refine hK.out _ _ ?_ (fun hHeld => ?_))
                        · exact KEEP.out _ HB1.out
                        clear hK K
                        try simp only [Act.put, List.setIfInBounds_toArray, List.set_cons_zero, List.set_cons_succ]
                        refine wpAnyH_ready (rs := [4, 8]) (by kernel_rfl) (by simp) ?_
                        refine AllReadyH.cons (o := { dst := some 56, op := Op.call { callee := Callee.builtin Builtin.append, args := #[Operand.tmp 53, Operand.tmp 55], argTypes := #[28, 28] }, type := 28, pos := "law.go:222", after := _, guard := none }) rfl (fun K hK => ?_) ?_
                        · refine step_pushesM (by rfl) _ _ (by rfl) (by rfl) (by rfl) (by rfl) HC.out HM.out (HB1.out.size) (by have := HTL.out; simp; omega) ?_
                          intro vA wA hoA hbA hgA
                          obtain ⟨pA, nA, cA, rfl⟩ := hoA.mcs.sl
                          have HB4 : Hid (Below w5.heap.size w5 wA) := hide (HB1.out.grown hgA HB1.out.size fun k hk => (HC.out.lt k hk).1)
                          have HA := hide hoA
                          clear hoA hbA hgA
                          first
                            | refine hK.out _ _ ?_ (fun hHeld => ?_)
                            | (go_wp2_with fail; refine hK.out _ _ ?_ (fun hHeld => ?_))
                          · exact KEEP.out _ HB4.out
                          clear hK K
                          try simp only [Act.put, List.setIfInBounds_toArray, List.set_cons_zero, List.set_cons_succ]
                          refine wpAnyH_ready (rs := [6, 8]) (by kernel_rfl) (by simp) ?_
                          refine AllReadyH.cons (o := { dst := some 58, op := Op.call { callee := Callee.value (Operand.func 39), args := #[Operand.tmp 57], argTypes := #[23] }, type := 23, pos := "law.go:222", after := _, guard := none }) rfl (fun K hK => ?_) ?_
                          · go_simp
                            refine (HCI.out _ HB4.out).mono ?_
                            rintro eN wN ⟨pN, nN, cN, rfl, hoN, hbN⟩
                            have HB6 : Hid (Below w5.heap.size w5 wN) := hide (HB4.out.trans (hbN.mono HB4.out.size))
                            have HA := hide (HA.out.below hbN)
                            have HN := hide (hoN.mono HB4.out.size)
                            clear hoN hbN
                            first
                              | refine hK.out _ _ ?_ (fun hHeld => ?_)
                              | (go_wp2_with fail; refine hK.out _ _ ?_ (fun hHeld => ?_))
                            · exact KEEP.out _ HB6.out
                            clear hK K
                            try simp only [Act.put, List.setIfInBounds_toArray, List.set_cons_zero, List.set_cons_succ]
                            refine wpAnyH_ready (rs := [8]) (by kernel_rfl) (by simp) ?_
                            refine AllReadyH.cons (o := { dst := some 60, op := Op.buildSlice 23 1 #[(0, Operand.tmp 59)], type := 23, pos := "law.go:222", after := _, guard := none }) rfl (fun K hK => ?_) AllReadyH.nil
                            have HB8 : Hid (Below w5.heap.size w5 (wN.alloc (.cells #[.int .i64 la1] 3))) := hide (HB6.out.trans ((bel_al wN (.cells #[.int .i64 la1] 3)).mono HB6.out.size))
                            have HA := hide (HA.out.below (bel_al wN (.cells #[.int .i64 la1] 3)))
                            have HN := hide (HN.out.below (bel_al wN (.cells #[.int .i64 la1] 3)))
                            have HL : Hid (OwnN 0 (wN.alloc (.cells #[.int .i64 la1] 3)) (.slice (some ⟨wN.heap.size, 0, none⟩) 1 1) [la1]) := hide (by have h := ownN_lit wN la1 HFL.out; first | exact h | (simp only [size_alloc'] at h; exact h))
                            go_simp
                            first
                              | refine hK.out _ _ ?_ (fun hHeld => ?_)
                              | (go_wp2_with fail; refine hK.out _ _ ?_ (fun hHeld => ?_))
                            · exact KEEP.out _ HB8.out
                            clear hK K
                            try simp only [Act.put, List.setIfInBounds_toArray, List.set_cons_zero, List.set_cons_succ]
                            refine wpAnyH_ready (rs := [9]) (by kernel_rfl) (by simp) ?_
                            refine AllReadyH.cons (o := { dst := some 61, op := Op.call { callee := Callee.builtin Builtin.append, args := #[Operand.tmp 58, Operand.tmp 60], argTypes := #[23, 23] }, type := 23, pos := "law.go:222", after := _, guard := none }) rfl (fun K hK => ?_) AllReadyH.nil
                            refine step_pushN_at (by rfl) _ _ (by rfl) (by rfl) la1 (by rfl) (by rfl) HL.out.lit_cell HN.out HFL.out (HB8.out.size) (by have := HTL.out; omega) ?_
                            intro vZ wZ hoZ hgZ hbZ
                            obtain ⟨pZ, nZ, cZ, rfl⟩ := hoZ.ns.sl
                            have HB9 : Hid (Below w5.heap.size w5 wZ) := hide (HB8.out.grown hgZ HB8.out.size fun k hk => (HN.out.lt k hk).1)
                            have HA := hide (HA.out.grown' HN.out hgZ)
                            have HZ9 := hide hoZ
                            clear hoZ hbZ hgZ
                            first
                              | refine hK.out _ _ ?_ (fun hHeld => ?_)
                              | (go_wp2_with fail; refine hK.out _ _ ?_ (fun hHeld => ?_))
                            · exact KEEP.out _ HB9.out
                            clear hK K
                            try simp only [Act.put, List.setIfInBounds_toArray, List.set_cons_zero, List.set_cons_succ]
                            refine wpAnyH_take (i := 10) (oi := { dst := some 4, op := Op.assign (Operand.tmp 56), type := 28, pos := "law.go:222", after := _, guard := none }) (v := ?_) rfl (by kernel_rfl) (by kernel_rfl) (by kernel_rfl) (fun _ _ _ h => h) (Or.inl ⟨by rfl, ?_⟩) (by assumption) ?_
                            rotate_left
                            · intro w hSw
                              (try dsimp only at hSw)
                              go_simp
                              try with_reducible rfl
                            try simp only [Act.put, List.setIfInBounds_toArray, List.set_cons_zero, List.set_cons_succ]
                            refine wpAnyH_take (i := 11) (oi := { dst := some 5, op := Op.assign (Operand.tmp 61), type := 23, pos := "law.go:222", after := _, guard := none }) (v := ?_) rfl (by kernel_rfl) (by kernel_rfl) (by kernel_rfl) (fun _ _ _ h => h) (Or.inl ⟨by rfl, ?_⟩) (by assumption) ?_
                            rotate_left
                            · intro w hSw
                              (try dsimp only at hSw)
                              go_simp
                              try with_reducible rfl
                            try simp only [Act.put, List.setIfInBounds_toArray, List.set_cons_zero, List.set_cons_succ]
                            refine wpAnyH_done (by kernel_rfl) ?_ _
                            have HQZ : Hid (Kq w wZ B2 g vb5 (.slice pA nA cA) (.slice pZ nZ cZ) ⟨x'.last + 1, x'.ps ++ [(x'.last + 1, y.m)]⟩ (T' ++ [y]) (I' ++ [x'.last + 1])) := hide ((HQ5.out.below HB9.out).rows (HA.out.mono HQ5.out.bB) (by have h := HZ9.out.mono HQ5.out.bB; rw [← HLA1.out] at h; exact h) fun z hz => by
                              rcases List.mem_append.1 hz with hz | hz
                              · exact HQ5.out.tv z hz
                              · simp at hz; subst hz; exact HY.out)
                            have HKZ := hide (HS.out.2.1.add y)
                            clear HA HZ9 HB9
                            go_wp2
                            go_roundw
                            case rel => exact ⟨i + 1, vb5, ⟨x'.last + 1, x'.ps ++ [(x'.last + 1, y.m)]⟩, T' ++ [y], I' ++ [x'.last + 1], by omega, by go_num, (by rw [← HLA1.out]), ⟨_, _, _, rfl⟩, ⟨_, _, _, rfl⟩, hide ⟨HQZ.out, HKZ.out, by have := HS.out.2.2; rw [List.length_append]; simp; omega⟩⟩
                            case measure => simp [intOf]; omega
                          refine AllReadyH.cons (o := { dst := some 60, op := Op.buildSlice 23 1 #[(0, Operand.tmp 59)], type := 23, pos := "law.go:222", after := _, guard := none }) rfl (fun K hK => ?_) AllReadyH.nil
                          have HB8 : Hid (Below w5.heap.size w5 (wA.alloc (.cells #[.int .i64 la1] 3))) := hide (HB4.out.trans ((bel_al wA (.cells #[.int .i64 la1] 3)).mono HB4.out.size))
                          have HA := hide (HA.out.below (bel_al wA (.cells #[.int .i64 la1] 3)))
                          have HL : Hid (OwnN 0 (wA.alloc (.cells #[.int .i64 la1] 3)) (.slice (some ⟨wA.heap.size, 0, none⟩) 1 1) [la1]) := hide (by have h := ownN_lit wA la1 HFL.out; first | exact h | (simp only [size_alloc'] at h; exact h))
                          go_simp
                          first
                            | refine hK.out _ _ ?_ (fun hHeld => ?_)
                            | (go_wp2_with fail; refine hK.out _ _ ?_ (fun hHeld => ?_))
                          · exact KEEP.out _ HB8.out
                          clear hK K
                          try simp only [Act.put, List.setIfInBounds_toArray, List.set_cons_zero, List.set_cons_succ]
                          refine wpAnyH_ready (rs := [6]) (by kernel_rfl) (by simp) ?_
                          refine AllReadyH.cons (o := { dst := some 58, op := Op.call { callee := Callee.value (Operand.func 39), args := #[Operand.tmp 57], argTypes := #[23] }, type := 23, pos := "law.go:222", after := _, guard := none }) rfl (fun K hK => ?_) AllReadyH.nil
                          go_simp
                          refine (HCI.out _ HB8.out).mono ?_
                          rintro eN wN ⟨pN, nN, cN, rfl, hoN, hbN⟩
                          have HB6 : Hid (Below w5.heap.size w5 wN) := hide (HB8.out.trans (hbN.mono HB8.out.size))
                          have HA := hide (HA.out.below hbN)
                          have HL := hide (HL.out.below hbN)
                          have HN := hide (hoN.mono HB8.out.size)
                          clear hoN hbN
                          first
                            | refine hK.out _ _ ?_ (fun hHeld => ?_)
                            | (go_wp2_with fail; refine hK.out _ _ ?_ (fun hHeld => ?_))
                          · exact KEEP.out _ HB6.out
                          clear hK K
                          try simp only [Act.put, List.setIfInBounds_toArray, List.set_cons_zero, List.set_cons_succ]
                          refine wpAnyH_ready (rs := [9]) (by kernel_rfl) (by simp) ?_
                          refine AllReadyH.cons (o := { dst := some 61, op := Op.call { callee := Callee.builtin Builtin.append, args := #[Operand.tmp 58, Operand.tmp 60], argTypes := #[23, 23] }, type := 23, pos := "law.go:222", after := _, guard := none }) rfl (fun K hK => ?_) AllReadyH.nil
                          refine step_pushN_at (by rfl) _ _ (by rfl) (by rfl) la1 (by rfl) (by rfl) HL.out.lit_cell HN.out HFL.out (HB6.out.size) (by have := HTL.out; omega) ?_
                          intro vZ wZ hoZ hgZ hbZ
                          obtain ⟨pZ, nZ, cZ, rfl⟩ := hoZ.ns.sl
                          have HB9 : Hid (Below w5.heap.size w5 wZ) := hide (HB6.out.grown hgZ HB6.out.size fun k hk => (HN.out.lt k hk).1)
                          have HA := hide (HA.out.grown' HN.out hgZ)
                          have HZ9 := hide hoZ
                          clear hoZ hbZ hgZ
                          first
                            | refine hK.out _ _ ?_ (fun hHeld => ?_)
                            | (go_wp2_with fail; refine hK.out _ _ ?_ (fun hHeld => ?_))
                          · exact KEEP.out _ HB9.out
                          clear hK K
                          try simp only [Act.put, List.setIfInBounds_toArray, List.set_cons_zero, List.set_cons_succ]
                          refine wpAnyH_take (i := 10) (oi := { dst := some 4, op := Op.assign (Operand.tmp 56), type := 28, pos := "law.go:222", after := _, guard := none }) (v := ?_) rfl (by kernel_rfl) (by kernel_rfl) (by kernel_rfl) (fun _ _ _ h => h) (Or.inl ⟨by rfl, ?_⟩) (by assumption) ?_
                          rotate_left
                          · intro w hSw
                            (try dsimp only at hSw)
                            go_simp
                            try with_reducible rfl
                          try simp only [Act.put, List.setIfInBounds_toArray, List.set_cons_zero, List.set_cons_succ]
                          refine wpAnyH_take (i := 11) (oi := { dst := some 5, op := Op.assign (Operand.tmp 61), type := 23, pos := "law.go:222", after := _, guard := none }) (v := ?_) rfl (by kernel_rfl) (by kernel_rfl) (by kernel_rfl) (fun _ _ _ h => h) (Or.inl ⟨by rfl, ?_⟩) (by assumption) ?_
                          rotate_left
                          · intro w hSw
                            (try dsimp only at hSw)
                            go_simp
                            try with_reducible rfl
                          try simp only [Act.put, List.setIfInBounds_toArray, List.set_cons_zero, List.set_cons_succ]
                          refine wpAnyH_done (by kernel_rfl) ?_ _
                          have HQZ : Hid (Kq w wZ B2 g vb5 (.slice pA nA cA) (.slice pZ nZ cZ) ⟨x'.last + 1, x'.ps ++ [(x'.last + 1, y.m)]⟩ (T' ++ [y]) (I' ++ [x'.last + 1])) := hide ((HQ5.out.below HB9.out).rows (HA.out.mono HQ5.out.bB) (by have h := HZ9.out.mono HQ5.out.bB; rw [← HLA1.out] at h; exact h) fun z hz => by
                            rcases List.mem_append.1 hz with hz | hz
                            · exact HQ5.out.tv z hz
                            · simp at hz; subst hz; exact HY.out)
                          have HKZ := hide (HS.out.2.1.add y)
                          clear HA HZ9 HB9
                          go_wp2
                          go_roundw
                          case rel => exact ⟨i + 1, vb5, ⟨x'.last + 1, x'.ps ++ [(x'.last + 1, y.m)]⟩, T' ++ [y], I' ++ [x'.last + 1], by omega, by go_num, (by rw [← HLA1.out]), ⟨_, _, _, rfl⟩, ⟨_, _, _, rfl⟩, hide ⟨HQZ.out, HKZ.out, by have := HS.out.2.2; rw [List.length_append]; simp; omega⟩⟩
                          case measure => simp [intOf]; omega
                        refine AllReadyH.cons (o := { dst := some 60, op := Op.buildSlice 23 1 #[(0, Operand.tmp 59)], type := 23, pos := "law.go:222", after := _, guard := none }) rfl (fun K hK => ?_) AllReadyH.nil
                        have HB8 : Hid (Below w5.heap.size w5 (wC.alloc (.cells #[.int .i64 la1] 3))) := hide (HB1.out.trans ((bel_al wC (.cells #[.int .i64 la1] 3)).mono HB1.out.size))
                        have HC := hide (HC.out.below (bel_al wC (.cells #[.int .i64 la1] 3)))
                        have HM := hide (HM.out.below (bel_al wC (.cells #[.int .i64 la1] 3)))
                        have HL : Hid (OwnN 0 (wC.alloc (.cells #[.int .i64 la1] 3)) (.slice (some ⟨wC.heap.size, 0, none⟩) 1 1) [la1]) := hide (by have h := ownN_lit wC la1 HFL.out; first | exact h | (simp only [size_alloc'] at h; exact h))
                        go_simp
                        first
                          | refine hK.out _ _ ?_ (fun hHeld => ?_)
                          | (go_wp2_with fail; refine hK.out _ _ ?_ (fun hHeld => ?_))
                        · exact KEEP.out _ HB8.out
                        clear hK K
                        try simp only [Act.put, List.setIfInBounds_toArray, List.set_cons_zero, List.set_cons_succ]
                        refine wpAnyH_ready (rs := [4]) (by kernel_rfl) (by simp) ?_
                        refine AllReadyH.cons (o := { dst := some 56, op := Op.call { callee := Callee.builtin Builtin.append, args := #[Operand.tmp 53, Operand.tmp 55], argTypes := #[28, 28] }, type := 28, pos := "law.go:222", after := _, guard := none }) rfl (fun K hK => ?_) AllReadyH.nil
                        refine step_pushesM (by rfl) _ _ (by rfl) (by rfl) (by rfl) (by rfl) HC.out HM.out (HB8.out.size) (by have := HTL.out; simp; omega) ?_
                        intro vA wA hoA hbA hgA
                        obtain ⟨pA, nA, cA, rfl⟩ := hoA.mcs.sl
                        have HB4 : Hid (Below w5.heap.size w5 wA) := hide (HB8.out.grown hgA HB8.out.size fun k hk => (HC.out.lt k hk).1)
                        have HL := hide (HL.out.grown' HC.out hgA)
                        have HA := hide hoA
                        clear hoA hbA hgA
                        first
                          | refine hK.out _ _ ?_ (fun hHeld => ?_)
                          | (go_wp2_with fail; refine hK.out _ _ ?_ (fun hHeld => ?_))
                        · exact KEEP.out _ HB4.out
                        clear hK K
                        try simp only [Act.put, List.setIfInBounds_toArray, List.set_cons_zero, List.set_cons_succ]
                        refine wpAnyH_ready (rs := [6]) (by kernel_rfl) (by simp) ?_
                        refine AllReadyH.cons (o := { dst := some 58, op := Op.call { callee := Callee.value (Operand.func 39), args := #[Operand.tmp 57], argTypes := #[23] }, type := 23, pos := "law.go:222", after := _, guard := none }) rfl (fun K hK => ?_) AllReadyH.nil
                        go_simp
                        refine (HCI.out _ HB4.out).mono ?_
                        rintro eN wN ⟨pN, nN, cN, rfl, hoN, hbN⟩
                        have HB6 : Hid (Below w5.heap.size w5 wN) := hide (HB4.out.trans (hbN.mono HB4.out.size))
                        have HA := hide (HA.out.below hbN)
                        have HL := hide (HL.out.below hbN)
                        have HN := hide (hoN.mono HB4.out.size)
                        clear hoN hbN
                        first
                          | refine hK.out _ _ ?_ (fun hHeld => ?_)
                          | (go_wp2_with fail; refine hK.out _ _ ?_ (fun hHeld => ?_))
                        · exact KEEP.out _ HB6.out
                        clear hK K
                        try simp only [Act.put, List.setIfInBounds_toArray, List.set_cons_zero, List.set_cons_succ]
                        refine wpAnyH_ready (rs := [9]) (by kernel_rfl) (by simp) ?_
                        refine AllReadyH.cons (o := { dst := some 61, op := Op.call { callee := Callee.builtin Builtin.append, args := #[Operand.tmp 58, Operand.tmp 60], argTypes := #[23, 23] }, type := 23, pos := "law.go:222", after := _, guard := none }) rfl (fun K hK => ?_) AllReadyH.nil
                        refine step_pushN_at (by rfl) _ _ (by rfl) (by rfl) la1 (by rfl) (by rfl) HL.out.lit_cell HN.out HFL.out (HB6.out.size) (by have := HTL.out; omega) ?_
                        intro vZ wZ hoZ hgZ hbZ
                        obtain ⟨pZ, nZ, cZ, rfl⟩ := hoZ.ns.sl
                        have HB9 : Hid (Below w5.heap.size w5 wZ) := hide (HB6.out.grown hgZ HB6.out.size fun k hk => (HN.out.lt k hk).1)
                        have HA := hide (HA.out.grown' HN.out hgZ)
                        have HZ9 := hide hoZ
                        clear hoZ hbZ hgZ
                        first
                          | refine hK.out _ _ ?_ (fun hHeld => ?_)
                          | (go_wp2_with fail; refine hK.out _ _ ?_ (fun hHeld => ?_))
                        · exact KEEP.out _ HB9.out
                        clear hK K
                        try simp only [Act.put, List.setIfInBounds_toArray, List.set_cons_zero, List.set_cons_succ]
                        refine wpAnyH_take (i := 10) (oi := { dst := some 4, op := Op.assign (Operand.tmp 56), type := 28, pos := "law.go:222", after := _, guard := none }) (v := ?_) rfl (by kernel_rfl) (by kernel_rfl) (by kernel_rfl) (fun _ _ _ h => h) (Or.inl ⟨by rfl, ?_⟩) (by assumption) ?_
                        rotate_left
                        · intro w hSw
                          (try dsimp only at hSw)
                          go_simp
                          try with_reducible rfl
                        try simp only [Act.put, List.setIfInBounds_toArray, List.set_cons_zero, List.set_cons_succ]
                        refine wpAnyH_take (i := 11) (oi := { dst := some 5, op := Op.assign (Operand.tmp 61), type := 23, pos := "law.go:222", after := _, guard := none }) (v := ?_) rfl (by kernel_rfl) (by kernel_rfl) (by kernel_rfl) (fun _ _ _ h => h) (Or.inl ⟨by rfl, ?_⟩) (by assumption) ?_
                        rotate_left
                        · intro w hSw
                          (try dsimp only at hSw)
                          go_simp
                          try with_reducible rfl
                        try simp only [Act.put, List.setIfInBounds_toArray, List.set_cons_zero, List.set_cons_succ]
                        refine wpAnyH_done (by kernel_rfl) ?_ _
                        have HQZ : Hid (Kq w wZ B2 g vb5 (.slice pA nA cA) (.slice pZ nZ cZ) ⟨x'.last + 1, x'.ps ++ [(x'.last + 1, y.m)]⟩ (T' ++ [y]) (I' ++ [x'.last + 1])) := hide ((HQ5.out.below HB9.out).rows (HA.out.mono HQ5.out.bB) (by have h := HZ9.out.mono HQ5.out.bB; rw [← HLA1.out] at h; exact h) fun z hz => by
                          rcases List.mem_append.1 hz with hz | hz
                          · exact HQ5.out.tv z hz
                          · simp at hz; subst hz; exact HY.out)
                        have HKZ := hide (HS.out.2.1.add y)
                        clear HA HZ9 HB9
                        go_wp2
                        go_roundw
                        case rel => exact ⟨i + 1, vb5, ⟨x'.last + 1, x'.ps ++ [(x'.last + 1, y.m)]⟩, T' ++ [y], I' ++ [x'.last + 1], by omega, by go_num, (by rw [← HLA1.out]), ⟨_, _, _, rfl⟩, ⟨_, _, _, rfl⟩, hide ⟨HQZ.out, HKZ.out, by have := HS.out.2.2; rw [List.length_append]; simp; omega⟩⟩
                        case measure => simp [intOf]; omega
                      refine AllReadyH.cons (o := { dst := some 60, op := Op.buildSlice 23 1 #[(0, Operand.tmp 59)], type := 23, pos := "law.go:222", after := _, guard := none }) rfl (fun K hK => ?_) AllReadyH.nil
                      have HB8 : Hid (Below w5.heap.size w5 ((w5.alloc (objY y)).alloc (.cells #[.int .i64 la1] 3)).drew) := hide (HB3.out.trans ((bel_ad (w5.alloc (objY y)) (.cells #[.int .i64 la1] 3)).mono HB3.out.size))
                      have HM := hide (HM.out.below (bel_ad (w5.alloc (objY y)) (.cells #[.int .i64 la1] 3)))
                      have HL : Hid (OwnN 0 ((w5.alloc (objY y)).alloc (.cells #[.int .i64 la1] 3)).drew (.slice (some ⟨w5.heap.size + 1, 0, none⟩) 1 1) [la1]) := hide (by have h := ownN_lit (w5.alloc (objY y)) la1 HFL.out; first | exact h | (simp only [size_alloc'] at h; exact h))
                      go_simp
                      first
                        | refine hK.out _ _ ?_ (fun hHeld => ?_)
                        | (go_wp2_with fail; refine hK.out _ _ ?_ (fun hHeld => ?_))
                      · exact KEEP.out _ HB8.out
                      clear hK K
                      try simp only [Act.put, List.setIfInBounds_toArray, List.set_cons_zero, List.set_cons_succ]
                      refine wpAnyH_ready (rs := [1]) (by kernel_rfl) (by simp) ?_
                      refine AllReadyH.cons (o := { dst := some 53, op := Op.call { callee := Callee.value (Operand.func 37), args := #[Operand.tmp 52], argTypes := #[28] }, type := 28, pos := "law.go:222", after := _, guard := none }) rfl (fun K hK => ?_) AllReadyH.nil
                      go_simp
                      refine (HCL.out _ HB8.out).mono ?_
                      rintro eC wC ⟨pC, nC, cC, rfl, hoC, hbC⟩
                      have HB1 : Hid (Below w5.heap.size w5 wC) := hide (HB8.out.trans (hbC.mono HB8.out.size))
                      have HM := hide (HM.out.below hbC)
                      have HL := hide (HL.out.below hbC)
                      have HC := hide (hoC.mono HB8.out.size)
                      clear hoC hbC
                      first
                        | refine hK.out _ _ ?_ (fun hHeld => ?_)
                        | (go_wp2_with fail; refine hK.out _ _ ?_ (fun hHeld => ?_))
                      · exact KEEP.out _ HB1.out
                      clear hK K
                      try simp only [Act.put, List.setIfInBounds_toArray, List.set_cons_zero, List.set_cons_succ]
                      refine wpAnyH_ready (rs := [4]) (by kernel_rfl) (by simp) ?_
                      refine AllReadyH.cons (o := { dst := some 56, op := Op.call { callee := Callee.builtin Builtin.append, args := #[Operand.tmp 53, Operand.tmp 55], argTypes := #[28, 28] }, type := 28, pos := "law.go:222", after := _, guard := none }) rfl (fun K hK => ?_) AllReadyH.nil
                      refine step_pushesM (by rfl) _ _ (by rfl) (by rfl) (by rfl) (by rfl) HC.out HM.out (HB1.out.size) (by have := HTL.out; simp; omega) ?_
                      intro vA wA hoA hbA hgA
                      obtain ⟨pA, nA, cA, rfl⟩ := hoA.mcs.sl
                      have HB4 : Hid (Below w5.heap.size w5 wA) := hide (HB1.out.grown hgA HB1.out.size fun k hk => (HC.out.lt k hk).1)
                      have HL := hide (HL.out.grown' HC.out hgA)
                      have HA := hide hoA
                      clear hoA hbA hgA
                      first
                        | refine hK.out _ _ ?_ (fun hHeld => ?_)
                        | (go_wp2_with fail; refine hK.out _ _ ?_ (fun hHeld => ?_))
                      · exact KEEP.out _ HB4.out
                      clear hK K
                      try simp only [Act.put, List.setIfInBounds_toArray, List.set_cons_zero, List.set_cons_succ]
                      refine wpAnyH_ready (rs := [6]) (by kernel_rfl) (by simp) ?_
                      refine AllReadyH.cons (o := { dst := some 58, op := Op.call { callee := Callee.value (Operand.func 39), args := #[Operand.tmp 57], argTypes := #[23] }, type := 23, pos := "law.go:222", after := _, guard := none }) rfl (fun K hK => ?_) AllReadyH.nil
                      go_simp
                      refine (HCI.out _ HB4.out).mono ?_
                      rintro eN wN ⟨pN, nN, cN, rfl, hoN, hbN⟩
                      have HB6 : Hid (Below w5.heap.size w5 wN) := hide (HB4.out.trans (hbN.mono HB4.out.size))
                      have HA := hide (HA.out.below hbN)
                      have HL := hide (HL.out.below hbN)
                      have HN := hide (hoN.mono HB4.out.size)
                      clear hoN hbN
                      first
                        | refine hK.out _ _ ?_ (fun hHeld => ?_)
                        | (go_wp2_with fail; refine hK.out _ _ ?_ (fun hHeld => ?_))
                      · exact KEEP.out _ HB6.out
                      clear hK K
                      try simp only [Act.put, List.setIfInBounds_toArray, List.set_cons_zero, List.set_cons_succ]
                      refine wpAnyH_ready (rs := [9]) (by kernel_rfl) (by simp) ?_
                      refine AllReadyH.cons (o := { dst := some 61, op := Op.call { callee := Callee.builtin Builtin.append, args := #[Operand.tmp 58, Operand.tmp 60], argTypes := #[23, 23] }, type := 23, pos := "law.go:222", after := _, guard := none }) rfl (fun K hK => ?_) AllReadyH.nil
                      refine step_pushN_at (by rfl) _ _ (by rfl) (by rfl) la1 (by rfl) (by rfl) HL.out.lit_cell HN.out HFL.out (HB6.out.size) (by have := HTL.out; omega) ?_
                      intro vZ wZ hoZ hgZ hbZ
                      obtain ⟨pZ, nZ, cZ, rfl⟩ := hoZ.ns.sl
                      have HB9 : Hid (Below w5.heap.size w5 wZ) := hide (HB6.out.grown hgZ HB6.out.size fun k hk => (HN.out.lt k hk).1)
                      have HA := hide (HA.out.grown' HN.out hgZ)
                      have HZ9 := hide hoZ
                      clear hoZ hbZ hgZ
                      first
                        | refine hK.out _ _ ?_ (fun hHeld => ?_)
                        | (go_wp2_with fail; refine hK.out _ _ ?_ (fun hHeld => ?_))
                      · exact KEEP.out _ HB9.out
                      clear hK K
                      try simp only [Act.put, List.setIfInBounds_toArray, List.set_cons_zero, List.set_cons_succ]
                      refine wpAnyH_take (i := 10) (oi := { dst := some 4, op := Op.assign (Operand.tmp 56), type := 28, pos := "law.go:222", after := _, guard := none }) (v := ?_) rfl (by kernel_rfl) (by kernel_rfl) (by kernel_rfl) (fun _ _ _ h => h) (Or.inl ⟨by rfl, ?_⟩) (by assumption) ?_
                      rotate_left
                      · intro w hSw
                        (try dsimp only at hSw)
                        go_simp
                        try with_reducible rfl
                      try simp only [Act.put, List.setIfInBounds_toArray, List.set_cons_zero, List.set_cons_succ]
                      refine wpAnyH_take (i := 11) (oi := { dst := some 5, op := Op.assign (Operand.tmp 61), type := 23, pos := "law.go:222", after := _, guard := none }) (v := ?_) rfl (by kernel_rfl) (by kernel_rfl) (by kernel_rfl) (fun _ _ _ h => h) (Or.inl ⟨by rfl, ?_⟩) (by assumption) ?_
                      rotate_left
                      · intro w hSw
                        (try dsimp only at hSw)
                        go_simp
                        try with_reducible rfl
                      try simp only [Act.put, List.setIfInBounds_toArray, List.set_cons_zero, List.set_cons_succ]
                      refine wpAnyH_done (by kernel_rfl) ?_ _
                      have HQZ : Hid (Kq w wZ B2 g vb5 (.slice pA nA cA) (.slice pZ nZ cZ) ⟨x'.last + 1, x'.ps ++ [(x'.last + 1, y.m)]⟩ (T' ++ [y]) (I' ++ [x'.last + 1])) := hide ((HQ5.out.below HB9.out).rows (HA.out.mono HQ5.out.bB) (by have h := HZ9.out.mono HQ5.out.bB; rw [← HLA1.out] at h; exact h) fun z hz => by
                        rcases List.mem_append.1 hz with hz | hz
                        · exact HQ5.out.tv z hz
                        · simp at hz; subst hz; exact HY.out)
                      have HKZ := hide (HS.out.2.1.add y)
                      clear HA HZ9 HB9
                      go_wp2
                      go_roundw
                      case rel => exact ⟨i + 1, vb5, ⟨x'.last + 1, x'.ps ++ [(x'.last + 1, y.m)]⟩, T' ++ [y], I' ++ [x'.last + 1], by omega, by go_num, (by rw [← HLA1.out]), ⟨_, _, _, rfl⟩, ⟨_, _, _, rfl⟩, hide ⟨HQZ.out, HKZ.out, by have := HS.out.2.2; rw [List.length_append]; simp; omega⟩⟩
                      case measure => simp [intOf]; omega
                    refine AllReadyH.cons (o := { dst := some 60, op := Op.buildSlice 23 1 #[(0, Operand.tmp 59)], type := 23, pos := "law.go:222", after := _, guard := none }) rfl (fun K hK => ?_) AllReadyH.nil
                    have HB8 : Hid (Below w5.heap.size w5 (w5.alloc (.cells #[.int .i64 la1] 3)).drew) := hide ((bel_drewN (Below.refl w5.heap.size w5) 1).trans ((bel_ad w5 (.cells #[.int .i64 la1] 3)).mono (bel_drewN (Below.refl w5.heap.size w5) 1).size))
                    have HL : Hid (OwnN 0 (w5.alloc (.cells #[.int .i64 la1] 3)).drew (.slice (some ⟨w5.heap.size, 0, none⟩) 1 1) [la1]) := hide (by have h := ownN_lit w5 la1 HFL.out; first | exact h | (simp only [size_alloc'] at h; exact h))
                    go_simp
                    first
                      | refine hK.out _ _ ?_ (fun hHeld => ?_)
                      | (go_wp2_with fail; refine hK.out _ _ ?_ (fun hHeld => ?_))
                    · exact KEEP.out _ HB8.out
                    clear hK K
                    try simp only [Act.put, List.setIfInBounds_toArray, List.set_cons_zero, List.set_cons_succ]
                    refine wpAnyH_ready (rs := [1, 3]) (by kernel_rfl) (by simp) ?_
                    refine AllReadyH.cons (o := { dst := some 53, op := Op.call { callee := Callee.value (Operand.func 37), args := #[Operand.tmp 52], argTypes := #[28] }, type := 28, pos := "law.go:222", after := _, guard := none }) rfl (fun K hK => ?_) ?_
                    · go_simp
                      refine (HCL.out _ HB8.out).mono ?_
                      rintro eC wC ⟨pC, nC, cC, rfl, hoC, hbC⟩
                      have HB1 : Hid (Below w5.heap.size w5 wC) := hide (HB8.out.trans (hbC.mono HB8.out.size))
                      have HL := hide (HL.out.below hbC)
                      have HC := hide (hoC.mono HB8.out.size)
                      clear hoC hbC
                      first
                        | refine hK.out _ _ ?_ (fun hHeld => ?_)
                        | (go_wp2_with fail; refine hK.out _ _ ?_ (fun hHeld => ?_))
                      · exact KEEP.out _ HB1.out
                      clear hK K
                      try simp only [Act.put, List.setIfInBounds_toArray, List.set_cons_zero, List.set_cons_succ]
                      refine wpAnyH_ready (rs := [3]) (by kernel_rfl) (by simp) ?_
                      refine AllReadyH.cons (o := { dst := some 55, op := Op.buildSlice 28 1 #[(0, Operand.tmp 54)], type := 28, pos := "law.go:222", after := _, guard := none }) rfl (fun K hK => ?_) AllReadyH.nil
                      have HB3 : Hid (Below w5.heap.size w5 (wC.alloc (objY y))) := hide (HB1.out.trans ((bel_al wC (objY y)).mono HB1.out.size))
                      have HC := hide (HC.out.below (bel_al wC (objY y)))
                      have HL := hide (HL.out.below (bel_al wC (objY y)))
                      have HM : Hid (Mcs (wC.alloc (objY y)) (.slice (some ⟨wC.heap.size, 0, none⟩) 1 1) [y]) := hide (by have h := mcs_lit wC y; first | exact h | (simp only [size_alloc'] at h; exact h))
                      go_simp
                      first
                        | refine hK.out _ _ ?_ (fun hHeld => ?_)
                        | (go_wp2_with fail; refine hK.out _ _ ?_ (fun hHeld => ?_))
                      · exact KEEP.out _ HB3.out
                      clear hK K
                      try simp only [Act.put, List.setIfInBounds_toArray, List.set_cons_zero, List.set_cons_succ]
                      refine wpAnyH_ready (rs := [4]) (by kernel_rfl) (by simp) ?_
                      refine AllReadyH.cons (o := { dst := some 56, op := Op.call { callee := Callee.builtin Builtin.append, args := #[Operand.tmp 53, Operand.tmp 55], argTypes := #[28, 28] }, type := 28, pos := "law.go:222", after := _, guard := none }) rfl (fun K hK => ?_) AllReadyH.nil
                      refine step_pushesM (by rfl) _ _ (by rfl) (by rfl) (by rfl) (by rfl) HC.out HM.out (HB3.out.size) (by have := HTL.out; simp; omega) ?_
                      intro vA wA hoA hbA hgA
                      obtain ⟨pA, nA, cA, rfl⟩ := hoA.mcs.sl
                      have HB4 : Hid (Below w5.heap.size w5 wA) := hide (HB3.out.grown hgA HB3.out.size fun k hk => (HC.out.lt k hk).1)
                      have HL := hide (HL.out.grown' HC.out hgA)
                      have HA := hide hoA
                      clear hoA hbA hgA
                      first
                        | refine hK.out _ _ ?_ (fun hHeld => ?_)
                        | (go_wp2_with fail; refine hK.out _ _ ?_ (fun hHeld => ?_))
                      · exact KEEP.out _ HB4.out
                      clear hK K
                      try simp only [Act.put, List.setIfInBounds_toArray, List.set_cons_zero, List.set_cons_succ]
                      refine wpAnyH_ready (rs := [6]) (by kernel_rfl) (by simp) ?_
                      refine AllReadyH.cons (o := { dst := some 58, op := Op.call { callee := Callee.value (Operand.func 39), args := #[Operand.tmp 57], argTypes := #[23] }, type := 23, pos := "law.go:222", after := _, guard := none }) rfl (fun K hK => ?_) AllReadyH.nil
                      go_simp
                      refine (HCI.out _ HB4.out).mono ?_
                      rintro eN wN ⟨pN, nN, cN, rfl, hoN, hbN⟩
                      have HB6 : Hid (Below w5.heap.size w5 wN) := hide (HB4.out.trans (hbN.mono HB4.out.size))
                      have HA := hide (HA.out.below hbN)
                      have HL := hide (HL.out.below hbN)
                      have HN := hide (hoN.mono HB4.out.size)
                      clear hoN hbN
                      first
                        | refine hK.out _ _ ?_ (fun hHeld => ?_)
                        | (go_wp2_with fail; refine hK.out _ _ ?_ (fun hHeld => ?_))
                      · exact KEEP.out _ HB6.out
                      clear hK K
                      try simp only [Act.put, List.setIfInBounds_toArray, List.set_cons_zero, List.set_cons_succ]
                      refine wpAnyH_ready (rs := [9]) (by kernel_rfl) (by simp) ?_
                      refine AllReadyH.cons (o := { dst := some 61, op := Op.call { callee := Callee.builtin Builtin.append, args := #[Operand.tmp 58, Operand.tmp 60], argTypes := #[23, 23] }, type := 23, pos := "law.go:222", after := _, guard := none }) rfl (fun K hK => ?_) AllReadyH.nil
                      refine step_pushN_at (by rfl) _ _ (by rfl) (by rfl) la1 (by rfl) (by rfl) HL.out.lit_cell HN.out HFL.out (HB6.out.size) (by have := HTL.out; omega) ?_
                      intro vZ wZ hoZ hgZ hbZ
                      obtain ⟨pZ, nZ, cZ, rfl⟩ := hoZ.ns.sl
                      have HB9 : Hid (Below w5.heap.size w5 wZ) := hide (HB6.out.grown hgZ HB6.out.size fun k hk => (HN.out.lt k hk).1)
                      have HA := hide (HA.out.grown' HN.out hgZ)
                      have HZ9 := hide hoZ
                      clear hoZ hbZ hgZ
                      first
                        | refine hK.out _ _ ?_ (fun hHeld => ?_)
                        | (go_wp2_with fail; refine hK.out _ _ ?_ (fun hHeld => ?_))
                      · exact KEEP.out _ HB9.out
                      clear hK K
                      try simp only [Act.put, List.setIfInBounds_toArray, List.set_cons_zero, List.set_cons_succ]
                      refine wpAnyH_take (i := 10) (oi := { dst := some 4, op := Op.assign (Operand.tmp 56), type := 28, pos := "law.go:222", after := _, guard := none }) (v := ?_) rfl (by kernel_rfl) (by kernel_rfl) (by kernel_rfl) (fun _ _ _ h => h) (Or.inl ⟨by rfl, ?_⟩) (by assumption) ?_
                      rotate_left
                      · intro w hSw
                        (try dsimp only at hSw)
                        go_simp
                        try with_reducible rfl
                      try simp only [Act.put, List.setIfInBounds_toArray, List.set_cons_zero, List.set_cons_succ]
                      refine wpAnyH_take (i := 11) (oi := { dst := some 5, op := Op.assign (Operand.tmp 61), type := 23, pos := "law.go:222", after := _, guard := none }) (v := ?_) rfl (by kernel_rfl) (by kernel_rfl) (by kernel_rfl) (fun _ _ _ h => h) (Or.inl ⟨by rfl, ?_⟩) (by assumption) ?_
                      rotate_left
                      · intro w hSw
                        (try dsimp only at hSw)
                        go_simp
                        try with_reducible rfl
                      try simp only [Act.put, List.setIfInBounds_toArray, List.set_cons_zero, List.set_cons_succ]
                      refine wpAnyH_done (by kernel_rfl) ?_ _
                      have HQZ : Hid (Kq w wZ B2 g vb5 (.slice pA nA cA) (.slice pZ nZ cZ) ⟨x'.last + 1, x'.ps ++ [(x'.last + 1, y.m)]⟩ (T' ++ [y]) (I' ++ [x'.last + 1])) := hide ((HQ5.out.below HB9.out).rows (HA.out.mono HQ5.out.bB) (by have h := HZ9.out.mono HQ5.out.bB; rw [← HLA1.out] at h; exact h) fun z hz => by
                        rcases List.mem_append.1 hz with hz | hz
                        · exact HQ5.out.tv z hz
                        · simp at hz; subst hz; exact HY.out)
                      have HKZ := hide (HS.out.2.1.add y)
                      clear HA HZ9 HB9
                      go_wp2
                      go_roundw
                      case rel => exact ⟨i + 1, vb5, ⟨x'.last + 1, x'.ps ++ [(x'.last + 1, y.m)]⟩, T' ++ [y], I' ++ [x'.last + 1], by omega, by go_num, (by rw [← HLA1.out]), ⟨_, _, _, rfl⟩, ⟨_, _, _, rfl⟩, hide ⟨HQZ.out, HKZ.out, by have := HS.out.2.2; rw [List.length_append]; simp; omega⟩⟩
                      case measure => simp [intOf]; omega
                    refine AllReadyH.cons (o := { dst := some 55, op := Op.buildSlice 28 1 #[(0, Operand.tmp 54)], type := 28, pos := "law.go:222", after := _, guard := none }) rfl (fun K hK => ?_) AllReadyH.nil
                    have HB3 : Hid (Below w5.heap.size w5 ((w5.alloc (.cells #[.int .i64 la1] 3)).alloc (objY y)).drew) := hide (HB8.out.trans ((bel_ad (w5.alloc (.cells #[.int .i64 la1] 3)) (objY y)).mono HB8.out.size))
                    have HL := hide (HL.out.below (bel_ad (w5.alloc (.cells #[.int .i64 la1] 3)) (objY y)))
                    have HM : Hid (Mcs ((w5.alloc (.cells #[.int .i64 la1] 3)).alloc (objY y)).drew (.slice (some ⟨w5.heap.size + 1, 0, none⟩) 1 1) [y]) := hide (by have h := mcs_lit (w5.alloc (.cells #[.int .i64 la1] 3)) y; first | exact h | (simp only [size_alloc'] at h; exact h))
                    go_simp
                    first
                      | refine hK.out _ _ ?_ (fun hHeld => ?_)
                      | (go_wp2_with fail; refine hK.out _ _ ?_ (fun hHeld => ?_))
                    · exact KEEP.out _ HB3.out
                    clear hK K
                    try simp only [Act.put, List.setIfInBounds_toArray, List.set_cons_zero, List.set_cons_succ]
                    refine wpAnyH_ready (rs := [1]) (by kernel_rfl) (by simp) ?_
                    refine AllReadyH.cons (o := { dst := some 53, op := Op.call { callee := Callee.value (Operand.func 37), args := #[Operand.tmp 52], argTypes := #[28] }, type := 28, pos := "law.go:222", after := _, guard := none }) rfl (fun K hK => ?_) AllReadyH.nil
                    go_simp
                    refine (HCL.out _ HB3.out).mono ?_
                    rintro eC wC ⟨pC, nC, cC, rfl, hoC, hbC⟩
                    have HB1 : Hid (Below w5.heap.size w5 wC) := hide (HB3.out.trans (hbC.mono HB3.out.size))
                    have HM := hide (HM.out.below hbC)
                    have HL := hide (HL.out.below hbC)
                    have HC := hide (hoC.mono HB3.out.size)
                    clear hoC hbC
                    first
                      | refine hK.out _ _ ?_ (fun hHeld => ?_)
                      | (go_wp2_with fail; refine hK.out _ _ ?_ (fun hHeld => ?_))
                    · exact KEEP.out _ HB1.out
                    clear hK K
                    try simp only [Act.put, List.setIfInBounds_toArray, List.set_cons_zero, List.set_cons_succ]
                    refine wpAnyH_ready (rs := [4]) (by kernel_rfl) (by simp) ?_
                    refine AllReadyH.cons (o := { dst := some 56, op := Op.call { callee := Callee.builtin Builtin.append, args := #[Operand.tmp 53, Operand.tmp 55], argTypes := #[28, 28] }, type := 28, pos := "law.go:222", after := _, guard := none }) rfl (fun K hK => ?_) AllReadyH.nil
                    refine step_pushesM (by rfl) _ _ (by rfl) (by rfl) (by rfl) (by rfl) HC.out HM.out (HB1.out.size) (by have := HTL.out; simp; omega) ?_
                    intro vA wA hoA hbA hgA
                    obtain ⟨pA, nA, cA, rfl⟩ := hoA.mcs.sl
                    have HB4 : Hid (Below w5.heap.size w5 wA) := hide (HB1.out.grown hgA HB1.out.size fun k hk => (HC.out.lt k hk).1)
                    have HL := hide (HL.out.grown' HC.out hgA)
                    have HA := hide hoA
                    clear hoA hbA hgA
                    first
                      | refine hK.out _ _ ?_ (fun hHeld => ?_)
                      | (go_wp2_with fail; refine hK.out _ _ ?_ (fun hHeld => ?_))
                    · exact KEEP.out _ HB4.out
                    clear hK K
                    try simp only [Act.put, List.setIfInBounds_toArray, List.set_cons_zero, List.set_cons_succ]
                    refine wpAnyH_ready (rs := [6]) (by kernel_rfl) (by simp) ?_
                    refine AllReadyH.cons (o := { dst := some 58, op := Op.call { callee := Callee.value (Operand.func 39), args := #[Operand.tmp 57], argTypes := #[23] }, type := 23, pos := "law.go:222", after := _, guard := none }) rfl (fun K hK => ?_) AllReadyH.nil
                    go_simp
                    refine (HCI.out _ HB4.out).mono ?_
                    rintro eN wN ⟨pN, nN, cN, rfl, hoN, hbN⟩
                    have HB6 : Hid (Below w5.heap.size w5 wN) := hide (HB4.out.trans (hbN.mono HB4.out.size))
                    have HA := hide (HA.out.below hbN)
                    have HL := hide (HL.out.below hbN)
                    have HN := hide (hoN.mono HB4.out.size)
                    clear hoN hbN
                    first
                      | refine hK.out _ _ ?_ (fun hHeld => ?_)
                      | (go_wp2_with fail; refine hK.out _ _ ?_ (fun hHeld => ?_))
                    · exact KEEP.out _ HB6.out
                    clear hK K
                    try simp only [Act.put, List.setIfInBounds_toArray, List.set_cons_zero, List.set_cons_succ]
                    refine wpAnyH_ready (rs := [9]) (by kernel_rfl) (by simp) ?_
                    refine AllReadyH.cons (o := { dst := some 61, op := Op.call { callee := Callee.builtin Builtin.append, args := #[Operand.tmp 58, Operand.tmp 60], argTypes := #[23, 23] }, type := 23, pos := "law.go:222", after := _, guard := none }) rfl (fun K hK => ?_) AllReadyH.nil
                    refine step_pushN_at (by rfl) _ _ (by rfl) (by rfl) la1 (by rfl) (by rfl) HL.out.lit_cell HN.out HFL.out (HB6.out.size) (by have := HTL.out; omega) ?_
                    intro vZ wZ hoZ hgZ hbZ
                    obtain ⟨pZ, nZ, cZ, rfl⟩ := hoZ.ns.sl
                    have HB9 : Hid (Below w5.heap.size w5 wZ) := hide (HB6.out.grown hgZ HB6.out.size fun k hk => (HN.out.lt k hk).1)
                    have HA := hide (HA.out.grown' HN.out hgZ)
                    have HZ9 := hide hoZ
                    clear hoZ hbZ hgZ
                    first
                      | refine hK.out _ _ ?_ (fun hHeld => ?_)
                      | (go_wp2_with fail; refine hK.out _ _ ?_ (fun hHeld => ?_))
                    · exact KEEP.out _ HB9.out
                    clear hK K
                    try simp only [Act.put, List.setIfInBounds_toArray, List.set_cons_zero, List.set_cons_succ]
                    refine wpAnyH_take (i := 10) (oi := { dst := some 4, op := Op.assign (Operand.tmp 56), type := 28, pos := "law.go:222", after := _, guard := none }) (v := ?_) rfl (by kernel_rfl) (by kernel_rfl) (by kernel_rfl) (fun _ _ _ h => h) (Or.inl ⟨by rfl, ?_⟩) (by assumption) ?_
                    rotate_left
                    · intro w hSw
                      (try dsimp only at hSw)
                      go_simp
                      try with_reducible rfl
                    try simp only [Act.put, List.setIfInBounds_toArray, List.set_cons_zero, List.set_cons_succ]
                    refine wpAnyH_take (i := 11) (oi := { dst := some 5, op := Op.assign (Operand.tmp 61), type := 23, pos := "law.go:222", after := _, guard := none }) (v := ?_) rfl (by kernel_rfl) (by kernel_rfl) (by kernel_rfl) (fun _ _ _ h => h) (Or.inl ⟨by rfl, ?_⟩) (by assumption) ?_
                    rotate_left
                    · intro w hSw
                      (try dsimp only at hSw)
                      go_simp
                      try with_reducible rfl
                    try simp only [Act.put, List.setIfInBounds_toArray, List.set_cons_zero, List.set_cons_succ]
                    refine wpAnyH_done (by kernel_rfl) ?_ _
                    have HQZ : Hid (Kq w wZ B2 g vb5 (.slice pA nA cA) (.slice pZ nZ cZ) ⟨x'.last + 1, x'.ps ++ [(x'.last + 1, y.m)]⟩ (T' ++ [y]) (I' ++ [x'.last + 1])) := hide ((HQ5.out.below HB9.out).rows (HA.out.mono HQ5.out.bB) (by have h := HZ9.out.mono HQ5.out.bB; rw [← HLA1.out] at h; exact h) fun z hz => by
                      rcases List.mem_append.1 hz with hz | hz
                      · exact HQ5.out.tv z hz
                      · simp at hz; subst hz; exact HY.out)
                    have HKZ := hide (HS.out.2.1.add y)
                    clear HA HZ9 HB9
                    go_wp2
                    go_roundw
                    case rel => exact ⟨i + 1, vb5, ⟨x'.last + 1, x'.ps ++ [(x'.last + 1, y.m)]⟩, T' ++ [y], I' ++ [x'.last + 1], by omega, by go_num, (by rw [← HLA1.out]), ⟨_, _, _, rfl⟩, ⟨_, _, _, rfl⟩, hide ⟨HQZ.out, HKZ.out, by have := HS.out.2.2; rw [List.length_append]; simp; omega⟩⟩
                    case measure => simp [intOf]; omega
                  · have hs1 : send1 x' y.m = x' := by unfold send1; rw [if_neg hok]
                    rw [hs1] at HQ5 ⊢
                    have hd1 : x'.last - x'.last = 0 := by omega
                    rw [hd1]
                    clear hok hs1 hd1
                    go_wp2
                    go_roundw
                    case rel => exact ⟨i + 1, vb5, x', T', I', by omega, by go_num, rfl, ⟨_, _, _, rfl⟩, ⟨_, _, _, rfl⟩, hide ⟨HQ5.out, HS.out.2.1, HS.out.2.2⟩⟩
                    case measure => simp [intOf]; omega
                · have HQI := hide HS.out.1
                  have HKI := hide HS.out.2.1
                  have HL9 : Hid (x'.last ≤ ((k + 1 : Nat) : Int) * 300) := hide (by have h1 := HS.out.2.2; have h2 := HX0.out; have h3 := HS.out.1.bag.ok.few; omega)
                  as_aux_lemma =>
                    have HLS := hide (list_bag HQI.out.bag)
                    have hn6 : decide (256 < (ni' : Int)) = false := decide_eq_false (by have h1 := HQI.out.it.ns.len.1; have h2 := HKI.out.lens.2; have h3 := HQI.out.bag.ok.few; omega)
                    go_wp2_with fail
                    refine HLS.out.mono ?_
                    rintro e wl ⟨ul, rfl, hol, hbl⟩
                    rw [← HKI.out.im] at hol
                    obtain ⟨pl, nl, cl, rfl⟩ := hol.ns.sl
                    have HEQ := hide (eqInts_any hol.ns (HQI.out.it.ns.below hbl))
                    have HQL := hide (HQI.out.below hbl)
                    clear hol hbl HLS
                    go_wp2_with fail
                    refine HEQ.out.mono ?_
                    rintro e wm ⟨rfl, hbm⟩
                    have HQM := hide (HQL.out.below hbm)
                    clear hbm
                    go_wp2
                    go_roundw
                    case rel => exact ⟨k + 1, _, x', T', I', by omega, by go_num, rfl, ⟨_, _, _, rfl⟩, ⟨_, _, _, rfl⟩, hide ⟨HQM.out, HKI.out, HL9.out⟩⟩
                    case measure => simp [intOf]; omega
      · as_aux_lemma =>
          have HEND := hide HR.out
          have hni := HEND.out.1.it.ns.len
          have hni9 : (ni : Int) ≤ 9223372036854775807 := by have h2 := hni.2.2; have h1 := hni.2.1; unfold maxLen at h2; omega
          have HNI := hide (And.intro hni.1 (And.intro HEND.out.2.1.lens.1 HEND.out.2.1.lens.2))
          clear hni
          go_wp2_with fail
          go_loopw [14, 15, 16, 17, 140] (fun _ _ _ _ jj V => ∃ i : Nat, i ≤ ni ∧ jj = .int .i64 i ∧ Hid (Below wr.heap.size wr V)) (fun _ _ _ _ jj _ => ni - (intOf jj).toNat)
          case atStart => exact ⟨0, by omega, rfl, hide (Below.refl _ _)⟩
          case round =>
            obtain ⟨i, hi, rfl, HB⟩ := hrel
            have HQ5 := hide (HEND.out.1.below HB.out)
            by_cases hil : i < ni
            · obtain ⟨id, hid⟩ : ∃ a, I[i]? = some a := ⟨_, List.getElem?_eq_getElem (by have := HNI.out.1; omega)⟩
              obtain ⟨y, hy⟩ : ∃ y, T[i]? = some y := ⟨_, List.getElem?_eq_getElem (by have := HNI.out; omega)⟩
              have hfk := HEND.out.2.1.find hid
              have hpk : peekI x id = (y.m, 0) := HEND.out.2.1.peek hfk hy
              have HPK := hide (peek_bag HQ5.out.bag id)
              rw [hpk] at HPK
              unfold PeekPost msA at HPK
              dsimp only at HPK
              have HY := hide (HQ5.out.tv y (List.mem_of_getElem? hy))
              have hkl := (List.getElem?_eq_some_iff.1 hy).1
              obtain ⟨gi, oi, rfl, hci⟩ := HQ5.out.it.ns.at_ (by omega)
              have hc0 := hci i id hid
              have hnt := HQ5.out.mt.mcs.len
              obtain ⟨gt, rfl, hnt1, hnt2, hnt3, hgB⟩ := HQ5.out.mt.form (by omega)
              obtain ⟨gt', he, _, hcy⟩ := HQ5.out.mt.at_ (by omega)
              injection he with he
              injection he with he _ _
              subst he
              have hcy := hcy i y hy
              obtain ⟨kt, hkt⟩ : ∃ a, i * 13 = a := ⟨_, rfl⟩
              rw [hkt] at hcy
              have HCY := hide hcy
              have j3 : (i : Int) < (nt : Int) := by omega
              have j2 : (0 : Int) ≤ (i : Int) := by omega
              have j5 : (i : Int) < (ni : Int) := by omega
              clear hid hy hfk hpk hkl hci hnt hnt1 hnt2 hnt3 hgB hcy
              go_wp2_with fail
              refine HPK.out.mono ?_
              rintro e w5 ⟨ve, vv, vd, rfl, hmo, hb5⟩
              obtain ⟨pe5, ne5, ce5, rfl⟩ := hmo.es.ens.sl
              obtain ⟨pv5, nv5, cv5, rfl⟩ := hmo.vs.ns.sl
              obtain ⟨pd5, nd5, cd5, rfl⟩ := hmo.d.by_.sl
              have HM5 := hide hmo.v
              have HB5 := hide (HB.out.trans (hb5.mono HB.out.size))
              have HCY5 := hide (show ∀ (j : Nat) u, (mcC y)[j]? = some u → w5.cell? ⟨gt, kt + j, none⟩ = some u from fun j u hj => (hb5.cell (lt_of_cell (HCY.out j u hj))).trans (HCY.out j u hj))
              clear hmo hb5 HPK hc0
              obtain ⟨X, hX⟩ : ∃ X, w5.alloc (.cells #[.int .i64 y.m.k, .int .i64 y.m.f, .int .i64 y.m.t, .int .i64 y.m.tm, .int .i64 y.m.ix, .int .i64 y.m.lt, .int .i64 y.m.cm, .int .i64 y.m.rd, .bool y.m.ys, .bool y.m.dn, .slice pe5 ne5 ce5, .slice pv5 nv5 cv5, .slice pd5 nd5 cd5] 26) = X := ⟨_, rfl⟩
              have hXb : Below w5.heap.size w5 X := by rw [← hX]; exact (Below.refl _ _).alloc (Nat.le_refl _) _
              have hXr : X.heap[w5.heap.size]? = some (.cells #[.int .i64 y.m.k, .int .i64 y.m.f, .int .i64 y.m.t, .int .i64 y.m.tm, .int .i64 y.m.ix, .int .i64 y.m.lt, .int .i64 y.m.cm, .int .i64 y.m.rd, .bool y.m.ys, .bool y.m.dn, .slice pe5 ne5 ce5, .slice pv5 nv5 cv5, .slice pd5 nd5 cd5] 26 (0, 0)) := by rw [← hX]; exact heap_alloc_new w5 _
              have HX5 := Box13.of_row hXr
              obtain ⟨bm, hbm⟩ : ∃ b, w5.heap.size = b := ⟨_, rfl⟩
              rw [hbm] at HX5
              have HB6 := hide (HB5.out.trans (hXb.mono HB5.out.size))
              have HQ6 := hide (HEND.out.1.below HB6.out)
              have HSA := hide (fun V (hV : Below X.heap.size X V) => sameM_any ((HM5.out.below hXb).below hV) (HY.out.below (HQ6.out.bel.trans (hV.mono HQ6.out.bel.size))))
              unfold msA at HSA
              have hsa : ∀ V, Below X.heap.size X V → V.cell? ⟨bm, 0, none⟩ = some (.int .i64 y.m.k) ∧ V.cell? ⟨bm, 1, none⟩ = some (.int .i64 y.m.f) ∧ V.cell? ⟨bm, 2, none⟩ = some (.int .i64 y.m.t) ∧ V.cell? ⟨bm, 3, none⟩ = some (.int .i64 y.m.tm) ∧ V.cell? ⟨bm, 4, none⟩ = some (.int .i64 y.m.ix) ∧ V.cell? ⟨bm, 5, none⟩ = some (.int .i64 y.m.lt) ∧ V.cell? ⟨bm, 6, none⟩ = some (.int .i64 y.m.cm) ∧ V.cell? ⟨bm, 7, none⟩ = some (.int .i64 y.m.rd) ∧ V.cell? ⟨bm, 8, none⟩ = some (.bool y.m.ys) ∧ V.cell? ⟨bm, 9, none⟩ = some (.bool y.m.dn) ∧ V.cell? ⟨bm, 10, none⟩ = some (.slice pe5 ne5 ce5) ∧ V.cell? ⟨bm, 11, none⟩ = some (.slice pv5 nv5 cv5) ∧ V.cell? ⟨bm, 12, none⟩ = some (.slice pd5 nd5 cd5) ∧ V.cell? ⟨gt, kt, none⟩ = some (.int .i64 y.m.k) ∧ V.cell? ⟨gt, kt + 1, none⟩ = some (.int .i64 y.m.f) ∧ V.cell? ⟨gt, kt + 2, none⟩ = some (.int .i64 y.m.t) ∧ V.cell? ⟨gt, kt + 3, none⟩ = some (.int .i64 y.m.tm) ∧ V.cell? ⟨gt, kt + 4, none⟩ = some (.int .i64 y.m.ix) ∧ V.cell? ⟨gt, kt + 5, none⟩ = some (.int .i64 y.m.lt) ∧ V.cell? ⟨gt, kt + 6, none⟩ = some (.int .i64 y.m.cm) ∧ V.cell? ⟨gt, kt + 7, none⟩ = some (.int .i64 y.m.rd) ∧ V.cell? ⟨gt, kt + 8, none⟩ = some (.bool y.m.ys) ∧ V.cell? ⟨gt, kt + 9, none⟩ = some (.bool y.m.dn) ∧ V.cell? ⟨gt, kt + 10, none⟩ = some (.slice y.pe y.ne y.ce) ∧ V.cell? ⟨gt, kt + 11, none⟩ = some (.slice y.pv y.nv y.cv) ∧ V.cell? ⟨gt, kt + 12, none⟩ = some (.slice y.pd y.nd y.cd) := fun V hV => by
                obtain ⟨b0, b1, b2, b3, b4, b5, b6, b7, b8, b9, b10, b11, b12⟩ := HX5.below hV
                have hq : ∀ (j : Nat) u, (mcC y)[j]? = some u → V.cell? ⟨gt, kt + j, none⟩ = some u := fun j u hj => by
                  have h1 := HCY5.out j u hj
                  have h2 := (hXb.cell (lt_of_cell h1)).trans h1
                  exact (hV.cell (lt_of_cell h2)).trans h2
                exact ⟨b0, b1, b2, b3, b4, b5, b6, b7, b8, b9, b10, b11, b12, hq 0 _ rfl, hq 1 _ rfl, hq 2 _ rfl, hq 3 _ rfl, hq 4 _ rfl, hq 5 _ rfl, hq 6 _ rfl, hq 7 _ rfl, hq 8 _ rfl, hq 9 _ rfl, hq 10 _ rfl, hq 11 _ rfl, hq 12 _ rfl⟩
              have KEEP := hide hsa
              clear hXb hXr HX5 hsa
              go_wp2_with fail
              refine wp_region_held_drew (S := fun V => V.cell? ⟨bm, 0, none⟩ = some (.int .i64 y.m.k) ∧ V.cell? ⟨bm, 1, none⟩ = some (.int .i64 y.m.f) ∧ V.cell? ⟨bm, 2, none⟩ = some (.int .i64 y.m.t) ∧ V.cell? ⟨bm, 3, none⟩ = some (.int .i64 y.m.tm) ∧ V.cell? ⟨bm, 4, none⟩ = some (.int .i64 y.m.ix) ∧ V.cell? ⟨bm, 5, none⟩ = some (.int .i64 y.m.lt) ∧ V.cell? ⟨bm, 6, none⟩ = some (.int .i64 y.m.cm) ∧ V.cell? ⟨bm, 7, none⟩ = some (.int .i64 y.m.rd) ∧ V.cell? ⟨bm, 8, none⟩ = some (.bool y.m.ys) ∧ V.cell? ⟨bm, 9, none⟩ = some (.bool y.m.dn) ∧ V.cell? ⟨bm, 10, none⟩ = some (.slice pe5 ne5 ce5) ∧ V.cell? ⟨bm, 11, none⟩ = some (.slice pv5 nv5 cv5) ∧ V.cell? ⟨bm, 12, none⟩ = some (.slice pd5 nd5 cd5) ∧ V.cell? ⟨gt, kt, none⟩ = some (.int .i64 y.m.k) ∧ V.cell? ⟨gt, kt + 1, none⟩ = some (.int .i64 y.m.f) ∧ V.cell? ⟨gt, kt + 2, none⟩ = some (.int .i64 y.m.t) ∧ V.cell? ⟨gt, kt + 3, none⟩ = some (.int .i64 y.m.tm) ∧ V.cell? ⟨gt, kt + 4, none⟩ = some (.int .i64 y.m.ix) ∧ V.cell? ⟨gt, kt + 5, none⟩ = some (.int .i64 y.m.lt) ∧ V.cell? ⟨gt, kt + 6, none⟩ = some (.int .i64 y.m.cm) ∧ V.cell? ⟨gt, kt + 7, none⟩ = some (.int .i64 y.m.rd) ∧ V.cell? ⟨gt, kt + 8, none⟩ = some (.bool y.m.ys) ∧ V.cell? ⟨gt, kt + 9, none⟩ = some (.bool y.m.dn) ∧ V.cell? ⟨gt, kt + 10, none⟩ = some (.slice y.pe y.ne y.ce) ∧ V.cell? ⟨gt, kt + 11, none⟩ = some (.slice y.pv y.nv y.cv) ∧ V.cell? ⟨gt, kt + 12, none⟩ = some (.slice y.pd y.nd y.cd)) (by kernel_rfl) ?_ (fun hHeld => ?_)
              · exact KEEP.out _ (bel_drewN (Below.refl _ _) 1)
              refine wpAnyH_take (i := 0) (oi := { dst := some 151, op := Op.move (Operand.tmp 17), type := 31, pos := "law.go:231", after := #[], guard := none }) (v := ?_) rfl (by kernel_rfl) (by kernel_rfl) (by kernel_rfl) (fun _ _ _ h => h) (Or.inl ⟨by rfl, ?_⟩) (by assumption) ?_
              rotate_left
              · intro w hSw
                (try dsimp only at hSw)
                go_simp
                try with_reducible rfl
              try simp only [Act.put, List.setIfInBounds_toArray, List.set_cons_zero, List.set_cons_succ]
              refine wpAnyH_take (i := 1) (oi := { dst := some 152, op := Op.binOp BinOp.neq 31 (Operand.tmp 151) (Operand.const (Value.int IntKind.i64 0)) 31, type := 4, pos := "law.go:231", after := _, guard := none }) (v := ?_) rfl (by kernel_rfl) (by kernel_rfl) (by kernel_rfl) (fun _ _ _ h => h) (Or.inl ⟨by rfl, ?_⟩) (by assumption) ?_
              rotate_left
              · intro w hSw
                (try dsimp only at hSw)
                go_simp
                try with_reducible rfl
              try simp only [Act.put, List.setIfInBounds_toArray, List.set_cons_zero, List.set_cons_succ]
              refine wpAnyH_take (i := 2) (oi := { dst := some 153, op := Op.move (Operand.tmp 152), type := 4, pos := "law.go:231", after := _, guard := none }) (v := ?_) rfl (by kernel_rfl) (by kernel_rfl) (by kernel_rfl) (fun _ _ _ h => h) (Or.inl ⟨by rfl, ?_⟩) (by assumption) ?_
              rotate_left
              · intro w hSw
                (try dsimp only at hSw)
                go_simp
                try with_reducible rfl
              try simp only [Act.put, List.setIfInBounds_toArray, List.set_cons_zero, List.set_cons_succ]
              refine wpAnyH_take (i := 3) (oi := { dst := some 154, op := Op.load 26 (Operand.tmp 16), type := 26, pos := "law.go:231", after := _, guard := some (2, false) }) (v := ?_) rfl (by kernel_rfl) (by kernel_rfl) (by kernel_rfl) (fun _ _ _ h => h) (Or.inl ⟨by rfl, ?_⟩) (by assumption) ?_
              rotate_left
              · intro w hSw
                (try dsimp only at hSw)
                go_simp
                try with_reducible rfl
              try simp only [Act.put, List.setIfInBounds_toArray, List.set_cons_zero, List.set_cons_succ]
              refine wpAnyH_take (i := 4) (oi := { dst := some 155, op := Op.move (Operand.tmp 4), type := 28, pos := "law.go:231", after := _, guard := some (2, false) }) (v := ?_) rfl (by kernel_rfl) (by kernel_rfl) (by kernel_rfl) (fun _ _ _ h => h) (Or.inl ⟨by rfl, ?_⟩) (by assumption) ?_
              rotate_left
              · intro w hSw
                (try dsimp only at hSw)
                go_simp
                try with_reducible rfl
              try simp only [Act.put, List.setIfInBounds_toArray, List.set_cons_zero, List.set_cons_succ]
              refine wpAnyH_take (i := 5) (oi := { dst := some 156, op := Op.move (Operand.tmp 14), type := 3, pos := "law.go:231", after := _, guard := some (2, false) }) (v := ?_) rfl (by kernel_rfl) (by kernel_rfl) (by kernel_rfl) (fun _ _ _ h => h) (Or.inl ⟨by rfl, ?_⟩) (by assumption) ?_
              rotate_left
              · intro w hSw
                (try dsimp only at hSw)
                go_simp
                try with_reducible rfl
              try simp only [Act.put, List.setIfInBounds_toArray, List.set_cons_zero, List.set_cons_succ]
              refine wpAnyH_take (i := 6) (oi := { dst := some 157, op := Op.indexAddr 28 (Operand.tmp 155) (Operand.tmp 156), type := 0, pos := "law.go:231", after := _, guard := some (2, false) }) (v := ?_) rfl (by kernel_rfl) (by kernel_rfl) (by kernel_rfl) (fun _ _ _ h => h) (Or.inl ⟨by rfl, ?_⟩) (by assumption) ?_
              rotate_left
              · intro w hSw
                (try dsimp only at hSw)
                go_simp
                try with_reducible rfl
              try simp only [Act.put, List.setIfInBounds_toArray, List.set_cons_zero, List.set_cons_succ]
              refine wpAnyH_take (i := 7) (oi := { dst := some 158, op := Op.load 26 (Operand.tmp 157), type := 26, pos := "law.go:231", after := _, guard := some (2, false) }) (v := ?_) rfl (by kernel_rfl) (by kernel_rfl) (by kernel_rfl) (fun _ _ _ h => h) (Or.inl ⟨by rfl, ?_⟩) (by assumption) ?_
              rotate_left
              · intro w hSw
                (try dsimp only at hSw)
                go_simp
                try with_reducible rfl
              try simp only [Act.put, List.setIfInBounds_toArray, List.set_cons_zero, List.set_cons_succ]
              refine wpAnyH_ready (rs := [8]) (by kernel_rfl) (by simp) ?_
              refine AllReadyH.cons (o := { dst := some 159, op := Op.call { callee := Callee.value (Operand.func 16), args := #[Operand.tmp 154, Operand.tmp 158], argTypes := #[26, 26] }, type := 4, pos := "law.go:231", after := _, guard := some (2, false) }) rfl (fun K hK => ?_) AllReadyH.nil
              go_simp
              go_at_call 16
              refine (HSA.out _ (by first | exact Below.refl _ _ | exact bel_drewN (Below.refl _ _) 1)).mono ?_
              rintro e7 w7 ⟨rfl, hb7⟩
              first
                | refine hK.out _ _ ?_ (fun hHeld => ?_)
                | (go_wp2_with fail; refine hK.out _ _ ?_ (fun hHeld => ?_))
              · exact KEEP.out _ (by first | exact hb7 | exact (bel_drewN (Below.refl _ X) 1).trans hb7)
              clear hK K
              try simp only [Act.put, List.setIfInBounds_toArray, List.set_cons_zero, List.set_cons_succ]
              refine wpAnyH_take (i := 9) (oi := { dst := some 160, op := Op.unOp UnOp.not 4 (Operand.tmp 159), type := 4, pos := "law.go:231", after := _, guard := some (2, false) }) (v := ?_) rfl (by kernel_rfl) (by kernel_rfl) (by kernel_rfl) (fun _ _ _ h => h) (Or.inl ⟨by rfl, ?_⟩) (by assumption) ?_
              rotate_left
              · intro w hSw
                (try dsimp only at hSw)
                go_simp
                try with_reducible rfl
              try simp only [Act.put, List.setIfInBounds_toArray, List.set_cons_zero, List.set_cons_succ]
              refine wpAnyH_take (i := 10) (oi := { dst := some 161, op := Op.pick (Operand.tmp 153) (Operand.const (Value.bool true)) (Operand.tmp 160), type := 4, pos := "law.go:231", after := _, guard := none }) (v := ?_) rfl (by kernel_rfl) (by kernel_rfl) (by kernel_rfl) (fun _ _ _ h => h) (Or.inl ⟨by rfl, ?_⟩) (by assumption) ?_
              rotate_left
              · intro w hSw
                (try dsimp only at hSw)
                go_simp
                try with_reducible rfl
              try simp only [Act.put, List.setIfInBounds_toArray, List.set_cons_zero, List.set_cons_succ]
              refine wpAnyH_done (by kernel_rfl) ?_ _
              have HB7 : Hid (Below X.heap.size X w7) := hide (by first | exact hb7 | exact (bel_drewN (Below.refl _ X) 1).trans hb7)
              clear hb7
              go_wp2
              go_roundw
              case rel => exact ⟨i + 1, by omega, by go_num, hide (HB6.out.trans (HB7.out.mono HB6.out.size))⟩
              case measure => simp [intOf]; omega
            · go_wp2_with fail
              refine (HAW.out _).mono ?_
              rintro e w9 ⟨rfl, hb9⟩
              go_wp2
              go_ret
              exact ⟨rfl, HQ5.out.bel.trans (hb9.mono HQ5.out.bel.size)⟩
end Go.Proofs.Ytiiollgipfggmaa
