/- The law StorePlays. -/
import Derived.Test.YtfedkjaollioaaaGreatSoTel
import Derived.Test.YtfedkjaollioaaaGreatS13
import Derived.Test.YtfedkjaollioaaaGreatSoAw
import Derived.Test.YtfedkjaollioaaaGreatSoPlay
import Derived.Test.YtfedkjaollioaaaGreatS10
namespace Go.Proofs.YtfedkjaollioaaaGreat
set_option linter.unusedVariables false
set_option linter.unusedSimpArgs false
open Go.RowKit

/-- A store, and the document's, side by side. -/
structure PlX (w0 w : World) (gs bm gx : Nat) (R : List Tr) (R2 : List Rr) : Prop where
  s : SoIs w gs bm R
  x : RsIs w gx R2
  e : R2.map Rr.pl = R.map Tr.pl
  sn : ∀ k, SoS gs bm R k → w0.heap.size ≤ k
  xn : ∀ k, RxT gx R2 k → w0.heap.size ≤ k
  ap : ∀ k, SoS gs bm R k → ¬ RxT gx R2 k
  b : Below w0.heap.size w0 w
theorem PlX.below {w0 w w' : World} {gs bm gx : Nat} {R : List Tr} {R2 : List Rr} (h : PlX w0 w gs bm gx R R2) (hb : Below w.heap.size w w') : PlX w0 w' gs bm gx R R2 := ⟨h.s.below hb, h.x.below hb, h.e, h.sn, h.xn, h.ap, h.b.trans (hb.mono h.b.size)⟩
theorem PlX.drewN {w0 w : World} {gs bm gx : Nat} {R : List Tr} {R2 : List Rr} (h : PlX w0 w gs bm gx R R2) (q : Nat) : PlX w0 (w.drewN q) gs bm gx R R2 := h.below (bdrew w q)
/-- The document's store stays where the other one changes. -/
theorem PlX.keep {w0 w w1 : World} {gs bm gx : Nat} {R : List Tr} {R2 : List Rr} (h : PlX w0 w gs bm gx R R2) (hc : Chg w w1 (SoM bm R)) : RsIs w1 gx R2 := h.x.chg hc fun k i u hu => h.s.ne_cell hu
theorem PlX.both {w0 w w1 w2 : World} {gs bm gx : Nat} {R R' : List Tr} {R2 R2' : List Rr} {S : List Pl} (h : PlX w0 w gs bm gx R R2) (a : SoTo w w1 gs bm R R' S) (b : RxTo w1 w2 gx R2 R2' S) : PlX w0 w2 gs bm gx R' R2' := by
  have hn : ∀ k, SoS gs bm R' k → w0.heap.size ≤ k := fun k hk => by
    rcases a.new k hk with e | e
    · exact h.sn k e
    · have := h.b.size; omega
  have hx : ∀ k, SoS gs bm R' k → ¬ RxT gx R2 k := fun k hk hk2 => by
    rcases a.new k hk with e | e
    · exact h.ap k e hk2
    · have := h.x.lt k hk2; omega
  have b1 : Below w0.heap.size w0 w1 := Chg.to_below h.b a.chg fun k hk => h.sn k hk.sub
  refine ⟨a.is.chg b.chg fun k hk hm => hx k hk hm, b.is, by rw [a.pl, b.pl], hn, fun k hk => ?_, fun k hk hk2 => ?_, Chg.to_below b1 b.chg fun k hk => h.xn k hk⟩
  · rcases b.new k hk with e | e
    · exact h.xn k e
    · have := b1.size; omega
  · rcases b.new k hk2 with e | e
    · exact hx k hk e
    · have := a.is.lt k hk; omega
theorem retX_to {w w' : World} {gx : Nat} {R2 : List Rr} {f : Int} (h : RsIs w' gx (retX R2 f)) (hc : Chg w w' fun k => k = gx) : RxTo w w' gx R2 (retX R2 f) (retS (R2.map Rr.pl) f) :=
  ⟨h, retX_pl R2 f, hc.mono fun k e => .inl e, fun k hk => .inl (hk.sub fun x hx => (List.mem_filter.1 hx).1)⟩
theorem rs_new (w : World) : RsIs (w.alloc (.cells #[.slice none 0 0] 30)) w.heap.size [] := by
  have h := heap_alloc_new w (.cells #[.slice none 0 0] 30)
  have c0 := cell_of_row _ w.heap.size 0 _ 30 (0, 0) h
  exact ⟨⟨_, c0, RrRow.nil _, .inl rfl⟩, frozen_of_row _ w.heap.size 0 _ 30 h, SoOk.nil, by simp, by simp, by simp⟩
set_option maxRecDepth 200000 in
set_option maxHeartbeats 8000000 in
theorem lawStPlays_any {w : World} {v : Value} {M : List Dn} (hm : Dns w v M) : Calls Tryz.prog 3 #[v] w fun e w' => e = .returned (.bool true) ∧ Below w.heap.size w w' := by
  have HSH := hide (sshort_any hm)
  have HA := hide sawake_any
  have HMD := hide (fun W (hW : Below w.heap.size w W) => hm.below hW)
  obtain ⟨pM, cM, rfl, hlc, hcm, hx⟩ := hm
  have hn9 : (M.length : Int) ≤ 9223372036854775807 := by unfold maxLen at hcm; omega
  have HX0 := hide (fun k d (hd : M[k]? = some d) => (hx k d hd))
  obtain ⟨n, hn⟩ : ∃ n, M.length = n := ⟨_, rfl⟩
  rw [hn] at hn9 HMD HSH ⊢
  have HN := hide hn
  clear hlc hcm hx hn
  go_enter Tryz.func3, Tryz.ntmps3
  go_wp2_with fail
  refine HSH.out.mono ?_
  rintro e W ⟨⟨q, rfl, hq⟩, hbW⟩
  have HQ := hide hq
  have HBW := hide hbW
  clear hq hbW HSH
  cases q
  · go_wp2_with fail
    refine (HA.out _).mono ?_
    rintro e2 w2 ⟨rfl, hb2⟩
    have HB2 := hide (HBW.out.trans (hb2.mono HBW.out.size))
    clear hb2
    go_wp2
    go_ret
    exact ⟨rfl, HB2.out⟩
  · have HQM := hide (HQ.out (by simp)).2
    go_wp2_with fail
    refine (snew_any W).mono ?_
    intro e w1 hn1
    obtain ⟨gs0, bm0, R0, rfl, hs0, hr0, hn0, hb1⟩ := hn1
    have hb2 : Below w1.heap.size w1 (w1.alloc (.cells #[.slice none 0 0] 30)) := (Below.refl _ _).alloc (Nat.le_refl _) _
    have hw1 : Below w.heap.size w w1 := HBW.out.trans (hb1.mono HBW.out.size)
    have HP0 : Hid (∃ bm R R2, PlX w (w1.alloc (.cells #[.slice none 0 0] 30)) gs0 bm w1.heap.size R R2) := hide ⟨bm0, R0, [], hs0.below hb2, rs_new w1, by rw [hr0]; rfl, fun k hk => Nat.le_trans HBW.out.size (hn0 k hk), (fun k hk => by
      rcases hk with rfl | ⟨x, hx, _⟩
      · exact hw1.size
      · cases hx), (fun k hk hk2 => by
      rcases hk2 with rfl | ⟨x, hx, _⟩
      · exact absurd (hs0.lt _ hk) (Nat.lt_irrefl _)
      · cases hx), hw1.trans (hb2.mono hw1.size)⟩
    obtain ⟨gx, hgx⟩ : ∃ b, w1.heap.size = b := ⟨_, rfl⟩
    obtain ⟨X, hX⟩ : ∃ X, w1.alloc (.cells #[.slice none 0 0] 30) = X := ⟨_, rfl⟩
    rw [hgx, hX] at HP0
    clear hs0 hr0 hn0 hb1 hb2 hw1 HQ
    go_upto_region 4 with fail
    clear hgx hX
    go_wp2_with fail
    go_loopw [3, 6, 7, 8, 9, 10, 11, 12, 22] (fun v3 _ _ _ _ _ _ _ i wr => ∃ (gs k : Nat), v3 = .pointer (some ⟨gs, 0, none⟩) ∧ k ≤ n ∧ i = .int .i64 k ∧ Hid (∃ bm R R2, PlX w wr gs bm gx R R2)) (fun _ _ _ _ _ _ _ _ i _ => n - (intOf i).toNat)
    case atStart => exact ⟨gs0, 0, rfl, by omega, rfl, HP0⟩
    case round =>
      obtain ⟨gs, k, rfl, hk, rfl, HR⟩ := hrel
      by_cases hlt : k < n
      · obtain ⟨bm, R, R2, hP⟩ := HR.out
        have hkL : k < M.length := by have := HN.out; omega
        obtain ⟨d, hd⟩ : ∃ d, M[k]? = some d := ⟨_, List.getElem?_eq_getElem hkL⟩
        obtain ⟨p', c', hpe, _, _, hms⟩ := HMD.out wr hP.b
        injection hpe with hpe1 hpe2 hpe3
        subst hpe1 hpe3
        clear hpe2
        obtain ⟨g2, o2, rfl, hmv, hc⟩ := hms k d hd
        obtain ⟨oo, hoo⟩ : ∃ oo, o2 + k * 3 = oo := ⟨_, rfl⟩
        rw [hoo] at hc
        have c0 := hc 0 _ rfl
        rw [Nat.add_zero] at c0
        have c1 := hc 1 _ rfl
        have c2 := hc 2 _ rfl
        have hll := slight_len (HQM.out d (List.mem_of_getElem? hd))
        have hvn : d.L = [] ∨ ∀ k, (Value.slice d.p d.n d.c).ownBlock = some k → k < w.heap.size := by
          by_cases h0 : d.L = []
          · exact .inl h0
          · refine .inr fun k' hk' => ?_
            obtain ⟨_, _, _, hmv0, _⟩ := HX0.out k d hd
            have hs := hmv0.1
            have hl := hs.len.1
            have hp : 0 < d.L.length := List.length_pos_iff.2 h0
            obtain ⟨g, o, e, hx⟩ := hs.at_ (by omega)
            have h1 := lt_of_cell (hx 0 d.L[0] (List.getElem?_eq_getElem hp)).c0
            rw [e] at hk'
            have h2 : g = k' := by injection hk'
            dsimp only at h1
            omega
        obtain ⟨op, dp, dn, dc, dz, L⟩ := d
        dsimp only at hll c0 c1 c2 hmv hvn
        obtain ⟨Z, hZ⟩ : ∃ Z, wr.alloc (.cells #[.int .i64 op, .slice dp dn dc, .int .i64 dz] 33) = Z := ⟨_, rfl⟩
        obtain ⟨bz, hbz⟩ : ∃ b, wr.heap.size = b := ⟨_, rfl⟩
        have hbZ : Below wr.heap.size wr Z := by rw [← hZ]; exact (Below.refl _ _).alloc (Nat.le_refl _) _
        have hrz : Z.heap[bz]? = some (.cells #[.int .i64 op, .slice dp dn dc, .int .i64 dz] 33 (0, 0)) := by rw [← hZ, ← hbz]; exact heap_alloc_new _ _
        have z0 := cell_of_row Z bz 0 _ 33 (0, 0) hrz
        have z1 := cell_of_row Z bz 1 _ 33 (0, 0) hrz
        have z2 := cell_of_row Z bz 2 _ 33 (0, 0) hrz
        simp only [List.getElem?_toArray, List.getElem?_cons_succ, List.getElem?_cons_zero] at z0 z1 z2
        have HRZ := hide hrz
        have HLL := hide hll
        have HSP : Hid (Sps Z (.slice dp dn dc) L) := hide (hmv.1.below hbZ)
        have HP := hide (hP.below hbZ)
        have HVN := hide hvn
        have HLX : Hid (∀ k, RxT gx R2 k → k < wr.heap.size) := hide hP.x.lt
        have HBZ : Hid (∀ x ∈ R2, x.g < bz) := hide fun x hx => by rw [← hbz]; exact hP.x.lt _ (.inr ⟨x, hx, rfl⟩)
        have j0 : (0 : Int) ≤ (k : Int) := by omega
        have j1 : (k : Int) < (n : Int) := by omega
        clear hd hkL hmv hc hms hll hbZ hP hvn hrz
        obtain ⟨M5, hM5⟩ : ∃ M, M = modOfB 5 op := ⟨_, rfl⟩
        obtain ⟨hm1, hm2⟩ := modOfB_ok (m := 5) (by decide) (by decide) op
        rw [← hM5] at hm1 hm2
        have HGZ : Hid (gx ≠ bz) := hide (by have := HLX.out gx (.inl rfl); omega)
        go_upto_region 7 with fail
        clear hZ hbz
        go_upto_region 13 with fail
        rw [show wrap64 ((IntKind.u64.wrap op).tmod 5) = (M5 : Int) from hm1.symm]
        clear hm1 hM5
        by_cases h3 : M5 = 3
        · subst h3
          go_upto_region 14 with fail
          obtain ⟨S1, hS1⟩ : ∃ S, R.map Tr.pl = S := ⟨_, rfl⟩
          have HP1 := hide (HP.out.drewN 1)
          obtain ⟨N1, hN1⟩ : ∃ N : Int, ((R.length : Int) - (retS S1 dz).length) = N := ⟨_, rfl⟩
          have HRa : Hid (Calls Tryz.prog 8 #[.pointer (some ⟨gs, 0, none⟩), .int .i64 dz] (Z.drewN 1) fun e w' => e = .returned (.int .i64 N1) ∧ ∃ R7, SoTo (Z.drewN 1) w' gs bm R R7 (retS S1 dz)) := hide ((sretain_any HP1.out.s dz).mono fun e w' hh => by
            obtain ⟨he, ht⟩ := hh
            rw [hS1] at ht
            rw [show (retR R dz).length = (retS S1 dz).length by rw [← ht.pl, List.length_map], hN1] at he
            exact ⟨he, _, ht⟩)
          have HRb : Hid (∀ U, RsIs U gx R2 → Calls Tryz.prog 9 #[.pointer (some ⟨gx, 0, none⟩), .int .i64 dz] U fun e w' => e = .returned (.int .i64 N1) ∧ RsIs w' gx (retX R2 dz) ∧ Chg U w' fun k => k = gx) := hide (fun U hU => (rretain_any hU dz).mono fun e w' hh => by
            obtain ⟨he, ht⟩ := hh
            rw [show (retX R2 dz).length = (retS S1 dz).length by rw [← hS1, ← HP.out.e, ← retX_pl, List.length_map], show R2.length = R.length by have := congrArg List.length HP.out.e; simpa using this, hN1] at he
            exact ⟨he, ht⟩)
          have HS1 := hide hS1
          clear hN1 hS1 z0 z1
          refine wp_region_held_drew (S := fun U => U.cell? ⟨bz, 2, none⟩ = some (.int .i64 dz)) (by kernel_rfl) z2 (fun hHeld => ?_)
          refine wpAnyH_take (i := 0) (oi := { dst := some 64, op := Op.move (Operand.tmp 3), type := 25, pos := "law.go:84", after := #[], guard := none }) (v := ?_) rfl (by kernel_rfl) (by kernel_rfl) (by kernel_rfl) (fun _ _ _ h => h) (Or.inl ⟨by rfl, ?_⟩) (by assumption) ?_
          rotate_left
          · intro w hSw
            (try dsimp only at hSw)
            go_simp
            try with_reducible rfl
          try simp only [Act.put, List.setIfInBounds_toArray, List.set_cons_zero, List.set_cons_succ]
          refine wpAnyH_take (i := 1) (oi := { dst := some 65, op := Op.fieldAddr 33 (Operand.tmp 6) 2, type := 0, pos := "law.go:84", after := #[], guard := none }) (v := ?_) rfl (by kernel_rfl) (by kernel_rfl) (by kernel_rfl) (fun _ _ _ h => h) (Or.inl ⟨by rfl, ?_⟩) (by assumption) ?_
          rotate_left
          · intro w hSw
            (try dsimp only at hSw)
            go_simp
            try with_reducible rfl
          try simp only [Act.put, List.setIfInBounds_toArray, List.set_cons_zero, List.set_cons_succ]
          refine wpAnyH_take (i := 2) (oi := { dst := some 66, op := Op.load 3 (Operand.tmp 65), type := 3, pos := "law.go:84", after := _, guard := none }) (v := ?_) rfl (by kernel_rfl) (by kernel_rfl) (by kernel_rfl) (fun _ _ _ h => h) (Or.inl ⟨by rfl, ?_⟩) (by assumption) ?_
          rotate_left
          · intro w hSw
            (try dsimp only at hSw)
            go_simp
            try with_reducible rfl
          try simp only [Act.put, List.setIfInBounds_toArray, List.set_cons_zero, List.set_cons_succ]
          refine wpAnyH_take (i := 4) (oi := { dst := some 68, op := Op.move (Operand.tmp 4), type := 27, pos := "law.go:84", after := #[], guard := none }) (v := ?_) rfl (by kernel_rfl) (by kernel_rfl) (by kernel_rfl) (fun _ _ _ h => h) (Or.inl ⟨by rfl, ?_⟩) (by assumption) ?_
          rotate_left
          · intro w hSw
            (try dsimp only at hSw)
            go_simp
            try with_reducible rfl
          try simp only [Act.put, List.setIfInBounds_toArray, List.set_cons_zero, List.set_cons_succ]
          refine wpAnyH_take (i := 5) (oi := { dst := some 69, op := Op.fieldAddr 33 (Operand.tmp 6) 2, type := 0, pos := "law.go:84", after := #[], guard := none }) (v := ?_) rfl (by kernel_rfl) (by kernel_rfl) (by kernel_rfl) (fun _ _ _ h => h) (Or.inl ⟨by rfl, ?_⟩) (by assumption) ?_
          rotate_left
          · intro w hSw
            (try dsimp only at hSw)
            go_simp
            try with_reducible rfl
          try simp only [Act.put, List.setIfInBounds_toArray, List.set_cons_zero, List.set_cons_succ]
          refine wpAnyH_take (i := 6) (oi := { dst := some 70, op := Op.load 3 (Operand.tmp 69), type := 3, pos := "law.go:84", after := _, guard := none }) (v := ?_) rfl (by kernel_rfl) (by kernel_rfl) (by kernel_rfl) (fun _ _ _ h => h) (Or.inl ⟨by rfl, ?_⟩) (by assumption) ?_
          rotate_left
          · intro w hSw
            (try dsimp only at hSw)
            go_simp
            try with_reducible rfl
          try simp only [Act.put, List.setIfInBounds_toArray, List.set_cons_zero, List.set_cons_succ]
          refine wpAnyH_ready (rs := [3]) (by kernel_rfl) (by simp) ?_
          refine AllReadyH.cons (o := { dst := some 67, op := Op.call { callee := Callee.value (Operand.func 8), args := #[Operand.tmp 64, Operand.tmp 66], argTypes := #[25, 3] }, type := 3, pos := "law.go:84", after := _, guard := none }) rfl (fun K hK => ?_) AllReadyH.nil
          go_simp
          go_at_call 8
          refine (HRa.out).mono ?_
          rintro e7 w7 ⟨rfl, R7, ht7⟩
          first
            | refine hK.out _ _ ?_ (fun hHeld => ?_)
            | (go_wp2_with fail; refine hK.out _ _ ?_ (fun hHeld => ?_))
          · exact ((HP1.out.s).keep ht7.chg z2)
          clear hK K
          try simp only [Act.put, List.setIfInBounds_toArray, List.set_cons_zero, List.set_cons_succ]
          refine wpAnyH_ready (rs := [7]) (by kernel_rfl) (by simp) ?_
          refine AllReadyH.cons (o := { dst := some 71, op := Op.call { callee := Callee.value (Operand.func 9), args := #[Operand.tmp 68, Operand.tmp 70], argTypes := #[27, 3] }, type := 3, pos := "law.go:84", after := _, guard := none }) rfl (fun K hK => ?_) AllReadyH.nil
          go_simp
          go_at_call 9
          refine (HRb.out _ (HP1.out.keep ht7.chg)).mono ?_
          rintro e8 w8 ⟨rfl, hx8, hc8⟩
          first
            | refine hK.out _ _ ?_ (fun hHeld => ?_)
            | (go_wp2_with fail; refine hK.out _ _ ?_ (fun hHeld => ?_))
          · exact (hc8.cell ((HP1.out.s).keep ht7.chg z2) (fun e => HGZ.out e.symm))
          clear hK K
          try simp only [Act.put, List.setIfInBounds_toArray, List.set_cons_zero, List.set_cons_succ]
          refine wpAnyH_take (i := 8) (oi := { dst := some 72, op := Op.binOp BinOp.neq 3 (Operand.tmp 67) (Operand.tmp 71) 3, type := 4, pos := "law.go:84", after := _, guard := none }) (v := ?_) rfl (by kernel_rfl) (by kernel_rfl) (by kernel_rfl) (fun _ _ _ h => h) (Or.inl ⟨by rfl, ?_⟩) (by assumption) ?_
          rotate_left
          · intro w hSw
            (try dsimp only at hSw)
            go_simp
            try with_reducible rfl
          try simp only [Act.put, List.setIfInBounds_toArray, List.set_cons_zero, List.set_cons_succ]
          refine wpAnyH_done (by kernel_rfl) ?_ _
          have HTV : Hid (PlX w w8 gs bm gx R7 (retX R2 dz)) := hide (HP1.out.both ht7 (by rw [← HS1.out, ← HP.out.e]; exact retX_to hx8 hc8))
          clear ht7 hx8 hc8
          have HT9 := hide (tells_any HTV.out.s HTV.out.x HTV.out.e)
          go_wp2_with fail
          refine HT9.out.mono ?_
          rintro e w9 ⟨rfl, hb9⟩
          have HP9 := hide (HTV.out.below hb9)
          clear hb9 HT9
          go_wp2
          go_roundw
          case rel => exact ⟨gs, k + 1, rfl, by omega, by go_num, hide ⟨_, _, _, HP9.out⟩⟩
          case measure => simp [intOf]; omega
        · by_cases h4 : M5 = 4
          · subst h4
            have HCl := hide (stclone HP.out.s)
            clear z0 z1 z2
            go_wp2_with fail
            refine HCl.out.mono ?_
            rintro e w5 ⟨g3, b3, R3, rfl, hs3, hp3, hn3, hb3⟩
            have HP5 := hide (HP.out.below hb3)
            have H3 := hide (And.intro hs3 (And.intro hp3 hn3))
            have HR5 := hide (sretain_any HP5.out.s 4611686018427387904)
            clear hs3 hp3 hn3 hb3 HCl
            go_wp2_with fail
            refine HR5.out.mono ?_
            rintro e w6 ⟨rfl, ht6⟩
            have hap : ∀ k, SoS g3 b3 R3 k → ¬ SoM bm R k := fun k hk hm => by
              have h1 := H3.out.2.2 k hk
              have h2 := HP.out.s.lt k hm.sub
              omega
            have HTV : Hid (PlX w w6 g3 b3 gx R3 R2) := hide ⟨H3.out.1.chg ht6.chg hap, HP5.out.keep ht6.chg, by rw [H3.out.2.1]; exact HP.out.e, fun k hk => Nat.le_trans HP.out.b.size (H3.out.2.2 k hk), HP.out.xn, fun k hk hk2 => by
              have h1 := H3.out.2.2 k hk
              have h2 := HP.out.x.lt k hk2
              omega, Chg.to_below HP5.out.b ht6.chg fun k hk => HP.out.sn k hk.sub⟩
            clear ht6 hap HR5
            have HT9 := hide (tells_any HTV.out.s HTV.out.x HTV.out.e)
            go_wp2_with fail
            refine HT9.out.mono ?_
            rintro e w9 ⟨rfl, hb9⟩
            have HP9 := hide (HTV.out.below hb9)
            clear hb9 HT9
            go_wp2
            go_roundw
            case rel => exact ⟨g3, k + 1, rfl, by omega, by go_num, hide ⟨_, _, _, HP9.out⟩⟩
            case measure => simp [intOf]; omega
          · have hq3 : ((M5 : Int) == 3) = false := by simpa using (by omega : (M5 : Int) ≠ 3)
            have hq4 : ((M5 : Int) == 4) = false := by simpa using (by omega : (M5 : Int) ≠ 4)
            have HC1 := hide (cloneSp_any HSP.out (by have := HLL.out.1; omega))
            clear h3 h4 z0 z2
            go_wp2_with fail
            refine HC1.out.mono ?_
            rintro e w4 ⟨v4, rfl, ho4, hb4⟩
            have HO4 := hide ho4
            have HB4 := hide hb4
            have HP4 := hide (HP.out.below hb4)
            have hsp4 := ho4.sps
            obtain ⟨p4, n4, c4, rfl⟩ := hsp4.sl
            have HI1 := hide (singest_any HP4.out.s hsp4 (by have := HLL.out.1; omega) HLL.out.2)
            clear ho4 hb4 hsp4 HC1
            go_wp2_with fail
            refine HI1.out.mono ?_
            rintro e w5 ⟨rfl, R5, ht5⟩
            have hsg5 : Sps w5 (.slice p4 n4 c4) L := Sps.keep HO4.out.sps HP4.out.s ht5.chg
            have hsl5 : Sps w5 (.slice dp dn dc) L := Sps.keep (HSP.out.below HB4.out) HP4.out.s ht5.chg
            have hrz5 := row_keep HP4.out.s ht5.chg ((HB4.out.block bz (Array.getElem?_eq_some_iff.1 HRZ.out).1).trans HRZ.out) (u := .int .i64 op) (by have h := cell_of_row w4 bz 0 _ 33 (0, 0) ((HB4.out.block bz (Array.getElem?_eq_some_iff.1 HRZ.out).1).trans HRZ.out); simpa using h)
            have HT5 := hide ht5
            have HX5 := hide (HP4.out.keep ht5.chg)
            have hsz5 : Z.heap.size ≤ w5.heap.size := Nat.le_trans HB4.out.size ht5.chg.size
            obtain ⟨C, hC⟩ : ∃ C, ingC (R.map Tr.pl) L = C := ⟨_, rfl⟩
            obtain ⟨E9, hE9⟩ : ∃ E, ingE L = E := ⟨_, rfl⟩
            have HCE := hide (And.intro hC hE9)
            rw [hC, hE9]
            unfold cnV
            obtain ⟨Y, hY⟩ : ∃ Y, w5.alloc (.cells #[.int .i64 (C.add : Nat), .int .i64 (C.same : Nat), .int .i64 (C.other : Nat), .int .i64 (C.cyc : Nat), .int .i64 (C.full : Nat)] 40) = Y := ⟨_, rfl⟩
            obtain ⟨by_, hby⟩ : ∃ b, w5.heap.size = b := ⟨_, rfl⟩
            have hbY : Below w5.heap.size w5 Y := by rw [← hY]; exact (Below.refl _ _).alloc (Nat.le_refl _) _
            have hry : Y.heap[by_]? = some (.cells #[.int .i64 (C.add : Nat), .int .i64 (C.same : Nat), .int .i64 (C.other : Nat), .int .i64 (C.cyc : Nat), .int .i64 (C.full : Nat)] 40 (0, 0)) := by rw [← hY, ← hby]; exact heap_alloc_new _ _
            have hrzY := (hbY.block bz (Array.getElem?_eq_some_iff.1 hrz5).1).trans hrz5
            have z1 := cell_of_row Y bz 1 _ 33 (0, 0) hrzY
            simp only [List.getElem?_toArray, List.getElem?_cons_succ, List.getElem?_cons_zero] at z1
            have hxlt := HP.out.x.lt
            have hvx : L = [] ∨ ∀ k, (Value.slice dp dn dc).ownBlock = some k → ¬ RxT gx R2 k := HVN.out.imp id fun h k hk hx => by
              have h1 := h k hk
              have h2 := HP.out.xn k hx
              omega
            have HI2 := hide (ringest_any (HX5.out.below hbY) (hsl5.below hbY) hvx (by have := HLL.out.1; omega) HLL.out.2)
            have HNB : Hid (∀ k, RxT gx R2 k → k ≠ by_ ∧ k < Z.heap.size) := hide fun k hk => ⟨by have := hxlt k hk; omega, hxlt k hk⟩
            have HSG := hide (hsg5.below hbY)
            have HSL := hide (hsl5.below hbY)
            have HVX := hide hvx
            have HY := hide (And.intro hbY (And.intro hry hrzY))
            clear hbY hry hrzY hrz5 hvx hxlt hsg5 hsl5 hsz5 hC hE9 ht5 HI1
            go_wp2_with fail
            refine HI2.out.mono ?_
            rintro e w6 hp6
            obtain ⟨he6, R6, ht6⟩ := hp6
            rw [HP.out.e, HCE.out.1, HCE.out.2] at he6
            subst he6
            unfold cnV
            have hgz : ¬ RxT gx R2 by_ := fun h => (HNB.out _ h).1 rfl
            have hgb : ¬ RxT gx R2 bz := fun h => by
              rcases h with h | ⟨x, hx, h⟩
              · exact HGZ.out h.symm
              · have h1 := HBZ.out x hx
                omega
            have hry6 := (ht6.chg.block by_ (Array.getElem?_eq_some_iff.1 HY.out.2.1).1 hgz).trans HY.out.2.1
            have hrz6 := (ht6.chg.block bz (Array.getElem?_eq_some_iff.1 HY.out.2.2).1 hgb).trans HY.out.2.2
            have hsg6 : Sps w6 (.slice p4 n4 c4) L := HSG.out.chgT ht6.chg (.inr fun k hk hx => by
              have h1 := (HO4.out.lt k hk).1
              have h2 := (HNB.out k hx).2
              omega)
            have hsl6 : Sps w6 (.slice dp dn dc) L := HSL.out.chgT ht6.chg HVX.out
            have hT6 : PlX w w6 gs bm gx R5 R6 := HP4.out.both (HT5.out.below HY.out.1) (by rw [← HP.out.e]; exact ht6)
            obtain ⟨V, hV⟩ : ∃ V, w6.alloc (.cells #[.int .i64 (C.add : Nat), .int .i64 (C.same : Nat), .int .i64 (C.other : Nat), .int .i64 (C.cyc : Nat), .int .i64 (C.full : Nat)] 40) = V := ⟨_, rfl⟩
            obtain ⟨bv, hbv⟩ : ∃ b, w6.heap.size = b := ⟨_, rfl⟩
            have hbV : Below w6.heap.size w6 V := by rw [← hV]; exact (Below.refl _ _).alloc (Nat.le_refl _) _
            have hrv : V.heap[bv]? = some (.cells #[.int .i64 (C.add : Nat), .int .i64 (C.same : Nat), .int .i64 (C.other : Nat), .int .i64 (C.cyc : Nat), .int .i64 (C.full : Nat)] 40 (0, 0)) := by rw [← hV, ← hbv]; exact heap_alloc_new _ _
            have hryV := (hbV.block by_ (Array.getElem?_eq_some_iff.1 hry6).1).trans hry6
            have hrzV := (hbV.block bz (Array.getElem?_eq_some_iff.1 hrz6).1).trans hrz6
            have HTV := hide (hT6.below hbV)
            have HEQ := hide (equalSp_any (hsg6.below hbV) (hsl6.below hbV))
            rw [decide_eq_true rfl] at HEQ
            have z1 : V.cell? ⟨bz, 1, none⟩ = some (.slice dp dn dc) := by have h := cell_of_row V bz 1 _ 33 (0, 0) hrzV; simpa using h
            have s0 : V.cell? ⟨by_, 0, none⟩ = some (.int .i64 (C.add : Nat)) := by have h := cell_of_row V by_ 0 _ 40 (0, 0) hryV; simpa using h
            have s1 : V.cell? ⟨by_, 1, none⟩ = some (.int .i64 (C.same : Nat)) := by have h := cell_of_row V by_ 1 _ 40 (0, 0) hryV; simpa using h
            have s2 : V.cell? ⟨by_, 2, none⟩ = some (.int .i64 (C.other : Nat)) := by have h := cell_of_row V by_ 2 _ 40 (0, 0) hryV; simpa using h
            have s3 : V.cell? ⟨by_, 3, none⟩ = some (.int .i64 (C.cyc : Nat)) := by have h := cell_of_row V by_ 3 _ 40 (0, 0) hryV; simpa using h
            have s4 : V.cell? ⟨by_, 4, none⟩ = some (.int .i64 (C.full : Nat)) := by have h := cell_of_row V by_ 4 _ 40 (0, 0) hryV; simpa using h
            have s5 : V.cell? ⟨bv, 0, none⟩ = some (.int .i64 (C.add : Nat)) := by have h := cell_of_row V bv 0 _ 40 (0, 0) hrv; simpa using h
            have s6 : V.cell? ⟨bv, 1, none⟩ = some (.int .i64 (C.same : Nat)) := by have h := cell_of_row V bv 1 _ 40 (0, 0) hrv; simpa using h
            have s7 : V.cell? ⟨bv, 2, none⟩ = some (.int .i64 (C.other : Nat)) := by have h := cell_of_row V bv 2 _ 40 (0, 0) hrv; simpa using h
            have s8 : V.cell? ⟨bv, 3, none⟩ = some (.int .i64 (C.cyc : Nat)) := by have h := cell_of_row V bv 3 _ 40 (0, 0) hrv; simpa using h
            have s9 : V.cell? ⟨bv, 4, none⟩ = some (.int .i64 (C.full : Nat)) := by have h := cell_of_row V bv 4 _ 40 (0, 0) hrv; simpa using h
            clear hT6 hry6 hrz6 hsg6 hsl6 ht6 hbV hrv hryV hrzV hgz hgb
            go_upto_region 11 with fail
            clear hV hbv hY hby
            go_wp2_with fail
            refine HEQ.out.mono ?_
            rintro e w7 ⟨rfl, q7, rfl⟩
            clear HEQ z1 s0 s1 s2 s3 s4 s5 s6 s7 s8 s9
            have HTV' := hide (HTV.out.drewN q7)
            clear HTV
            have HT9 := hide (tells_any HTV'.out.s HTV'.out.x HTV'.out.e)
            go_wp2_with fail
            refine HT9.out.mono ?_
            rintro e w9 ⟨rfl, hb9⟩
            have HP9 := hide (HTV'.out.below hb9)
            clear hb9 HT9
            go_wp2
            go_roundw
            case rel => exact ⟨gs, k + 1, rfl, by omega, by go_num, hide ⟨_, _, _, HP9.out⟩⟩
            case measure => simp [intOf]; omega
      · obtain ⟨bm, R, R2, hP⟩ := HR.out
        have HB7 := hide hP.b
        clear hP HR
        go_wp2_with fail
        refine (HA.out _).mono ?_
        rintro e8 w8 ⟨rfl, hb8⟩
        have HB9 := hide (HB7.out.trans (hb8.mono HB7.out.size))
        clear hb8
        go_wp2
        go_ret
        exact ⟨rfl, HB9.out⟩
end Go.Proofs.YtfedkjaollioaaaGreat
