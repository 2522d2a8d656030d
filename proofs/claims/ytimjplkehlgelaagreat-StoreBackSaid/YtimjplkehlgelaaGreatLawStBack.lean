/- The law StoreBack. -/
import Derived.Test.YtimjplkehlgelaaGreatSoSameN
import Derived.Test.YtimjplkehlgelaaGreatSoLdImg
import Derived.Test.YtimjplkehlgelaaGreatSoAw
import Derived.Test.YtimjplkehlgelaaGreatSoPlay
namespace Go.Proofs.YtimjplkehlgelaaGreat
set_option linter.unusedVariables false
set_option linter.unusedSimpArgs false
open Go.RowKit

/-- Two stores side by side that tell the same. -/
def TwoS (w0 w : World) (gs bm gs2 bm2 : Nat) : Prop := ∃ R R2, SoIs w gs bm R ∧ SoIs w gs2 bm2 R2 ∧ nrm (R2.map Tr.pl) = nrm (R.map Tr.pl) ∧ (∀ k, SoS gs bm R k → w0.heap.size ≤ k) ∧ (∀ k, SoS gs2 bm2 R2 k → w0.heap.size ≤ k) ∧ (∀ k, SoS gs bm R k → ¬ SoS gs2 bm2 R2 k) ∧ Below w0.heap.size w0 w
theorem TwoS.below {w0 w w' : World} {gs bm gs2 bm2 : Nat} (h : TwoS w0 w gs bm gs2 bm2) (hb : Below w.heap.size w w') : TwoS w0 w' gs bm gs2 bm2 := by
  obtain ⟨R, R2, h1, h2, h3, h4, h5, h6, h7⟩ := h
  exact ⟨R, R2, h1.below hb, h2.below hb, h3, h4, h5, h6, h7.trans (hb.mono h7.size)⟩
theorem TwoS.step {w0 w w1 w2 : World} {gs bm gs2 bm2 : Nat} {R R2 R' R2' : List Tr} {S S2 : List Pl} (h1 : SoIs w gs bm R) (h2 : SoIs w gs2 bm2 R2) (h4 : ∀ k, SoS gs bm R k → w0.heap.size ≤ k) (h5 : ∀ k, SoS gs2 bm2 R2 k → w0.heap.size ≤ k) (h6 : ∀ k, SoS gs bm R k → ¬ SoS gs2 bm2 R2 k) (h7 : Below w0.heap.size w0 w)
    (a : SoTo w w1 gs bm R R' S) (b : SoTo w1 w2 gs2 bm2 R2 R2' S2) (he : nrm S2 = nrm S) : TwoS w0 w2 gs bm gs2 bm2 := by
  have hn : ∀ k, SoS gs bm R' k → w0.heap.size ≤ k := fun k hk => by
    rcases a.new k hk with h | h
    · exact h4 k h
    · have := h7.size; omega
  have hx : ∀ k, SoS gs bm R' k → ¬ SoS gs2 bm2 R2 k := fun k hk hk2 => by
    rcases a.new k hk with h | h
    · exact h6 k h hk2
    · have := h2.lt k hk2; omega
  have b1 : Below w0.heap.size w0 w1 := Chg.to_below h7 a.chg fun k hk => h4 k hk.sub
  refine ⟨R', R2', a.is.chg b.chg fun k hk hm => hx k hk hm.sub, b.is, by rw [a.pl, b.pl, he], hn, fun k hk => ?_, fun k hk hk2 => ?_, Chg.to_below b1 b.chg fun k hk => h5 k hk.sub⟩
  · rcases b.new k hk with h | h
    · exact h5 k h
    · have := b1.size; omega
  · rcases b.new k hk2 with h | h
    · exact hx k hk h
    · have := a.is.lt k hk; omega
theorem SoTo.other {w w1 : World} {gs bm gs2 bm2 : Nat} {R R2 R' : List Tr} {S : List Pl} (a : SoTo w w1 gs bm R R' S) (h2 : SoIs w gs2 bm2 R2) (h6 : ∀ k, SoS gs bm R k → ¬ SoS gs2 bm2 R2 k) : SoIs w1 gs2 bm2 R2 := h2.chg a.chg fun k hk hm => h6 k hm.sub hk
set_option maxRecDepth 200000 in
set_option maxHeartbeats 8000000 in
theorem lawStBack_any {w : World} {v u : Value} {D M : List Dn} (h : Dns w v D) (hm : Dns w u M) : Calls Tryz.prog 5 #[v, u] w fun e w' => e = .returned (.bool true) ∧ Below w.heap.size w w' := by
  have HSH := hide (sshort_any h)
  have HA := hide sawake_any
  have HD := hide h
  have HMD := hide (fun W (hW : Below w.heap.size w W) => hm.below hW)
  obtain ⟨pM, cM, rfl, hlc, hcm, hx⟩ := hm
  have hn9 : (M.length : Int) ≤ 9223372036854775807 := by unfold maxLen at hcm; omega
  obtain ⟨n, hn⟩ : ∃ n, M.length = n := ⟨_, rfl⟩
  rw [hn] at hn9 HMD ⊢
  have HN := hide hn
  clear h hlc hcm hx hn
  go_enter Tryz.func5, Tryz.ntmps5
  go_wp2_with fail
  refine HSH.out.mono ?_
  rintro e W ⟨⟨q, rfl, hq⟩, hbW⟩
  have HQ := hide hq
  have HBW := hide hbW
  clear hq hbW HSH
  cases q
  · go_wp2_with fail
    refine (HA.out _).mono ?_
    rintro e2 w2 ⟨rfl, hb2⟩
    have HB2 := hide (HBW.out.trans (hb2.mono HBW.out.size))
    clear hb2
    go_wp2
    go_ret
    exact ⟨rfl, HB2.out⟩
  · have HSH2 := hide (sshort_any (HMD.out _ HBW.out))
    go_wp2_with fail
    refine HSH2.out.mono ?_
    rintro e W2 ⟨⟨q2, rfl, hq2⟩, hbW2⟩
    have HQ2 := hide hq2
    have HBW2 := hide (HBW.out.trans (hbW2.mono HBW.out.size))
    clear hq2 hbW2 HSH2
    cases q2
    · go_wp2_with fail
      refine (HA.out _).mono ?_
      rintro e2 w2 ⟨rfl, hb2⟩
      have HB2 := hide (HBW2.out.trans (hb2.mono HBW2.out.size))
      clear hb2
      go_wp2
      go_ret
      exact ⟨rfl, HB2.out⟩
    · have HQD := hide (HQ.out (by simp)).2
      have HQM := hide (HQ2.out (by simp)).2
      go_wp2_with fail
      refine (play_any (HD.out.below HBW2.out) HQD.out).mono ?_
      intro e X hp
      obtain ⟨gs, bm, R, rfl, hs, hpl, hnw, hbX⟩ := hp
      have HX := hide (And.intro hs (And.intro hnw (HBW2.out.trans (hbX.mono HBW2.out.size))))
      have HSZ := hide HBW2.out.size
      have IM := hide (simage_any hs)
      clear hs hpl hnw hbX HQ HQ2 HQD HD
      go_wp2_with fail
      refine IM.out.mono ?_
      intro e w4 hp
      obtain ⟨v4, rfl, ho4, hb4⟩ := hp
      obtain ⟨p4, n4, c4, rfl⟩ := ho4.by_.sl
      have LD := hide (sload_any ho4.by_ (by have := imgS_len HX.out.1.ok; omega))
      have H4 := hide (And.intro (HX.out.1.below hb4) (HX.out.2.2.trans (hb4.mono HX.out.2.2.size)))
      clear ho4 hb4 IM
      go_wp2_with fail
      refine LD.out.mono ?_
      intro e w5 hp
      rcases hp with ⟨hi, gs2, bm2, R2, rfl, k1, k2, k3, k4⟩ | ⟨hi, _⟩
      · rw [ld_img HX.out.1.ok] at k2
        have hT : TwoS w w5 gs bm gs2 bm2 := ⟨R, R2, H4.out.1.below k4, k1, by rw [k2, nrm_nrm], fun k hk => Nat.le_trans HSZ.out (HX.out.2.1 k hk), fun k hk => Nat.le_trans H4.out.2.size (k3 k hk), fun k hk hk2 => by have := H4.out.1.lt k hk; have := k3 k hk2; omega, H4.out.2.trans (k4.mono H4.out.2.size)⟩
        have HT := hide hT
        have SM := hide (ssameN_any (H4.out.1.below k4) k1 (by rw [k2, nrm_nrm]))
        clear k1 k2 k3 k4 hi hT LD HX H4
        go_wp2_with fail
        refine SM.out.mono ?_
        rintro e w6 ⟨rfl, hb6⟩
        have HT6 := hide (HT.out.below hb6)
        clear hb6 SM HT
        go_wp2_with fail
        go_loopw [9, 10, 11, 12, 13, 41] (fun _ _ _ _ _ i wr => ∃ (k : Nat), k ≤ n ∧ i = .int .i64 k ∧ Hid (TwoS w wr gs bm gs2 bm2)) (fun _ _ _ _ _ i _ => n - (intOf i).toNat)
        case atStart => exact ⟨0, by omega, rfl, HT6⟩
        case round =>
          obtain ⟨k, hk, rfl, HR⟩ := hrel
          by_cases hlt : k < n
          · obtain ⟨R', R2', t1, t2, t3, t4, t5, t6, t7⟩ := HR.out
            have hkL : k < M.length := by have := HN.out; omega
            obtain ⟨d, hd⟩ : ∃ d, M[k]? = some d := ⟨_, List.getElem?_eq_getElem hkL⟩
            obtain ⟨p', c', hpe, _, _, hms⟩ := HMD.out wr t7
            injection hpe with hpe1 hpe2 hpe3
            subst hpe1 hpe3
            clear hpe2
            obtain ⟨g2, o2, rfl, hmv, hc⟩ := hms k d hd
            obtain ⟨oo, hoo⟩ : ∃ oo, o2 + k * 3 = oo := ⟨_, rfl⟩
            rw [hoo] at hc
            have c0 := hc 0 _ rfl
            rw [Nat.add_zero] at c0
            have c1 := hc 1 _ rfl
            have c2 := hc 2 _ rfl
            have hll := slight_len (HQM.out d (List.mem_of_getElem? hd))
            obtain ⟨op, dp, dn, dc, dz, L⟩ := d
            dsimp only at hll c0 c1 c2 hmv
            obtain ⟨Z, hZ⟩ : ∃ Z, wr.alloc (.cells #[.int .i64 op, .slice dp dn dc, .int .i64 dz] 33) = Z := ⟨_, rfl⟩
            obtain ⟨bz, hbz⟩ : ∃ b, wr.heap.size = b := ⟨_, rfl⟩
            have hbZ : Below wr.heap.size wr Z := by rw [← hZ]; exact (Below.refl _ _).alloc (Nat.le_refl _) _
            have hrz : Z.heap[bz]? = some (.cells #[.int .i64 op, .slice dp dn dc, .int .i64 dz] 33 (0, 0)) := by rw [← hZ, ← hbz]; exact heap_alloc_new _ _
            have z0 := cell_of_row Z bz 0 _ 33 (0, 0) hrz
            have z1 := cell_of_row Z bz 1 _ 33 (0, 0) hrz
            have z2 := cell_of_row Z bz 2 _ 33 (0, 0) hrz
            simp only [List.getElem?_toArray, List.getElem?_cons_succ, List.getElem?_cons_zero] at z0 z1 z2
            have HRZ := hide hrz
            have HLL := hide hll
            have HSP : Hid (Sps Z (.slice dp dn dc) L) := hide (hmv.1.below hbZ)
            have HT1 := hide (And.intro (t1.below hbZ) (And.intro (t2.below hbZ) (And.intro t3 (And.intro t4 (And.intro t5 (And.intro t6 (t7.trans (hbZ.mono t7.size))))))))
            have j0 : (0 : Int) ≤ (k : Int) := by omega
            have j1 : (k : Int) < (n : Int) := by omega
            clear hd hkL hmv hc hms hll hbZ t1 t2 t3 t4 t5 t6 t7 hrz
            go_upto_region 10 with fail
            clear hZ hbz
            by_cases h3 : (wrap64 ((IntKind.u64.wrap op).tmod 5) == 3) = true
            · go_upto_region 11 with fail
              obtain ⟨S1, hS1⟩ : ∃ S, R'.map Tr.pl = S := ⟨_, rfl⟩
              obtain ⟨S2, hS2⟩ : ∃ S, R2'.map Tr.pl = S := ⟨_, rfl⟩
              have hre := ret_eqv (S := S2) (S' := S1) (by rw [← hS1, ← hS2]; exact HT1.out.2.2.1) dz
              have hlen : R2'.length = R'.length := by
                have h1 := congrArg List.length HT1.out.2.2.1
                rw [nrm_len, nrm_len] at h1
                simpa using h1
              obtain ⟨N1, hN1⟩ : ∃ N : Int, ((R'.length : Int) - (retS S1 dz).length) = N := ⟨_, rfl⟩
              have hlr : ∀ (Q : List Tr) (T : List Pl), Q.map Tr.pl = T → Q.length = T.length := fun Q T h => by rw [← h, List.length_map]
              have HRa : Hid (Calls Tryz.prog 11 #[.pointer (some ⟨gs, 0, none⟩), .int .i64 dz] (Z.drewN 1) fun e w' => e = .returned (.int .i64 N1) ∧ ∃ R7, SoTo (Z.drewN 1) w' gs bm R' R7 (retS S1 dz)) := hide ((sretain_any (HT1.out.1.drewN 1) dz).mono fun e w' hh => by
                obtain ⟨he, ht⟩ := hh
                rw [hS1] at ht
                rw [hlr _ _ ht.pl, hN1] at he
                exact ⟨he, _, ht⟩)
              have HRb : Hid (∀ U, SoIs U gs2 bm2 R2' → Calls Tryz.prog 11 #[.pointer (some ⟨gs2, 0, none⟩), .int .i64 dz] U fun e w' => e = .returned (.int .i64 N1) ∧ ∃ R8, SoTo U w' gs2 bm2 R2' R8 (retS S2 dz)) := hide (fun U hU => (sretain_any hU dz).mono fun e w' hh => by
                obtain ⟨he, ht⟩ := hh
                rw [hS2] at ht
                rw [hlr _ _ ht.pl, hlen, hre.2, hN1] at he
                exact ⟨he, _, ht⟩)
              have HRE := hide hre.1
              clear hre hlen hN1 hlr hS1 hS2 z0 z1
              refine wp_region_held_drew (S := fun U => U.cell? ⟨bz, 2, none⟩ = some (.int .i64 dz)) (by kernel_rfl) z2 (fun hHeld => ?_)
              refine wpAnyH_take (i := 0) (oi := { dst := some 51, op := Op.move (Operand.tmp 5), type := 25, pos := "law.go:156", after := #[], guard := none }) (v := ?_) rfl (by kernel_rfl) (by kernel_rfl) (by kernel_rfl) (fun _ _ _ h => h) (Or.inl ⟨by rfl, ?_⟩) (by assumption) ?_
              rotate_left
              · intro w hSw
                (try dsimp only at hSw)
                go_simp
                try with_reducible rfl
              try simp only [Act.put, List.setIfInBounds_toArray, List.set_cons_zero, List.set_cons_succ]
              refine wpAnyH_take (i := 1) (oi := { dst := some 52, op := Op.fieldAddr 33 (Operand.tmp 9) 2, type := 0, pos := "law.go:156", after := #[], guard := none }) (v := ?_) rfl (by kernel_rfl) (by kernel_rfl) (by kernel_rfl) (fun _ _ _ h => h) (Or.inl ⟨by rfl, ?_⟩) (by assumption) ?_
              rotate_left
              · intro w hSw
                (try dsimp only at hSw)
                go_simp
                try with_reducible rfl
              try simp only [Act.put, List.setIfInBounds_toArray, List.set_cons_zero, List.set_cons_succ]
              refine wpAnyH_take (i := 2) (oi := { dst := some 53, op := Op.load 3 (Operand.tmp 52), type := 3, pos := "law.go:156", after := _, guard := none }) (v := ?_) rfl (by kernel_rfl) (by kernel_rfl) (by kernel_rfl) (fun _ _ _ h => h) (Or.inl ⟨by rfl, ?_⟩) (by assumption) ?_
              rotate_left
              · intro w hSw
                (try dsimp only at hSw)
                go_simp
                try with_reducible rfl
              try simp only [Act.put, List.setIfInBounds_toArray, List.set_cons_zero, List.set_cons_succ]
              refine wpAnyH_take (i := 4) (oi := { dst := some 55, op := Op.move (Operand.tmp 6), type := 25, pos := "law.go:156", after := #[], guard := none }) (v := ?_) rfl (by kernel_rfl) (by kernel_rfl) (by kernel_rfl) (fun _ _ _ h => h) (Or.inl ⟨by rfl, ?_⟩) (by assumption) ?_
              rotate_left
              · intro w hSw
                (try dsimp only at hSw)
                go_simp
                try with_reducible rfl
              try simp only [Act.put, List.setIfInBounds_toArray, List.set_cons_zero, List.set_cons_succ]
              refine wpAnyH_take (i := 5) (oi := { dst := some 56, op := Op.fieldAddr 33 (Operand.tmp 9) 2, type := 0, pos := "law.go:156", after := #[], guard := none }) (v := ?_) rfl (by kernel_rfl) (by kernel_rfl) (by kernel_rfl) (fun _ _ _ h => h) (Or.inl ⟨by rfl, ?_⟩) (by assumption) ?_
              rotate_left
              · intro w hSw
                (try dsimp only at hSw)
                go_simp
                try with_reducible rfl
              try simp only [Act.put, List.setIfInBounds_toArray, List.set_cons_zero, List.set_cons_succ]
              refine wpAnyH_take (i := 6) (oi := { dst := some 57, op := Op.load 3 (Operand.tmp 56), type := 3, pos := "law.go:156", after := _, guard := none }) (v := ?_) rfl (by kernel_rfl) (by kernel_rfl) (by kernel_rfl) (fun _ _ _ h => h) (Or.inl ⟨by rfl, ?_⟩) (by assumption) ?_
              rotate_left
              · intro w hSw
                (try dsimp only at hSw)
                go_simp
                try with_reducible rfl
              try simp only [Act.put, List.setIfInBounds_toArray, List.set_cons_zero, List.set_cons_succ]
              refine wpAnyH_ready (rs := [3]) (by kernel_rfl) (by simp) ?_
              refine AllReadyH.cons (o := { dst := some 54, op := Op.call { callee := Callee.value (Operand.func 11), args := #[Operand.tmp 51, Operand.tmp 53], argTypes := #[25, 3] }, type := 3, pos := "law.go:156", after := _, guard := none }) rfl (fun K hK => ?_) AllReadyH.nil
              go_simp
              go_at_call 11
              refine (HRa.out).mono ?_
              rintro e7 w7 ⟨rfl, R7, ht7⟩
              first
                | refine hK.out _ _ ?_ (fun hHeld => ?_)
                | (go_wp2_with fail; refine hK.out _ _ ?_ (fun hHeld => ?_))
              · exact ((HT1.out.1.drewN 1).keep ht7.chg z2)
              clear hK K
              try simp only [Act.put, List.setIfInBounds_toArray, List.set_cons_zero, List.set_cons_succ]
              refine wpAnyH_ready (rs := [7]) (by kernel_rfl) (by simp) ?_
              refine AllReadyH.cons (o := { dst := some 58, op := Op.call { callee := Callee.value (Operand.func 11), args := #[Operand.tmp 55, Operand.tmp 57], argTypes := #[25, 3] }, type := 3, pos := "law.go:156", after := _, guard := none }) rfl (fun K hK => ?_) AllReadyH.nil
              go_simp
              go_at_call 11
              refine (HRb.out _ (ht7.other (HT1.out.2.1.drewN 1) HT1.out.2.2.2.2.2.1)).mono ?_
              rintro e8 w8 ⟨rfl, R8, ht8⟩
              first
                | refine hK.out _ _ ?_ (fun hHeld => ?_)
                | (go_wp2_with fail; refine hK.out _ _ ?_ (fun hHeld => ?_))
              · exact ((ht7.other (HT1.out.2.1.drewN 1) HT1.out.2.2.2.2.2.1).keep ht8.chg ((HT1.out.1.drewN 1).keep ht7.chg z2))
              clear hK K
              try simp only [Act.put, List.setIfInBounds_toArray, List.set_cons_zero, List.set_cons_succ]
              refine wpAnyH_take (i := 8) (oi := { dst := some 59, op := Op.binOp BinOp.neq 3 (Operand.tmp 54) (Operand.tmp 58) 3, type := 4, pos := "law.go:156", after := _, guard := none }) (v := ?_) rfl (by kernel_rfl) (by kernel_rfl) (by kernel_rfl) (fun _ _ _ h => h) (Or.inl ⟨by rfl, ?_⟩) (by assumption) ?_
              rotate_left
              · intro w hSw
                (try dsimp only at hSw)
                go_simp
                try with_reducible rfl
              try simp only [Act.put, List.setIfInBounds_toArray, List.set_cons_zero, List.set_cons_succ]
              refine wpAnyH_done (by kernel_rfl) ?_ _
              have HTV : Hid (TwoS w w8 gs bm gs2 bm2) := hide (TwoS.step (HT1.out.1.drewN 1) (HT1.out.2.1.drewN 1) HT1.out.2.2.2.1 HT1.out.2.2.2.2.1 HT1.out.2.2.2.2.2.1 (HT1.out.2.2.2.2.2.2.trans ((bdrew Z 1).mono HT1.out.2.2.2.2.2.2.size)) ht7 ht8 HRE.out)
              clear ht7 ht8
              go_wp2
              go_roundw
              case rel => exact ⟨k + 1, by omega, by go_num, HTV⟩
              case measure => simp [intOf]; omega
            · replace h3 : (wrap64 ((IntKind.u64.wrap op).tmod 5) == 3) = false := by simpa using h3
              have HI1 := hide (singest_any HT1.out.1 HSP.out (by have := HLL.out.1; omega) HLL.out.2)
              go_wp2_with fail
              refine HI1.out.mono ?_
              rintro e w5 ⟨rfl, R5, ht5⟩
              have HSP5 := hide (Sps.keep HSP.out HT1.out.1 ht5.chg)
              obtain ⟨hS1, hC1⟩ := ing_eqv HT1.out.2.1.ok HT1.out.1.ok HT1.out.2.2.1 L
              have hrz5 := row_keep HT1.out.1 ht5.chg HRZ.out z0
              have HRZ5 := hide hrz5
              have HT5 := hide (And.intro ht5 (And.intro hS1 hC1))
              clear ht5 hS1 hC1
              obtain ⟨C, hC⟩ : ∃ C, ingC (R'.map Tr.pl) L = C := ⟨_, rfl⟩
              obtain ⟨E9, hE9⟩ : ∃ E, ingE L = E := ⟨_, rfl⟩
              have HCE := hide (And.intro hC hE9)
              rw [hC, hE9]
              clear hC hE9 z0 z1 z2
              unfold cnV
              obtain ⟨Y, hY⟩ : ∃ Y, w5.alloc (.cells #[.int .i64 (C.add : Nat), .int .i64 (C.same : Nat), .int .i64 (C.other : Nat), .int .i64 (C.cyc : Nat), .int .i64 (C.full : Nat)] 40) = Y := ⟨_, rfl⟩
              obtain ⟨by_, hby⟩ : ∃ b, w5.heap.size = b := ⟨_, rfl⟩
              have hbY : Below w5.heap.size w5 Y := by rw [← hY]; exact (Below.refl _ _).alloc (Nat.le_refl _) _
              have hry : Y.heap[by_]? = some (.cells #[.int .i64 (C.add : Nat), .int .i64 (C.same : Nat), .int .i64 (C.other : Nat), .int .i64 (C.cyc : Nat), .int .i64 (C.full : Nat)] 40 (0, 0)) := by rw [← hY, ← hby]; exact heap_alloc_new _ _
              have hrzY := (hbY.block bz (Array.getElem?_eq_some_iff.1 hrz5).1).trans hrz5
              have z1 := cell_of_row Y bz 1 _ 33 (0, 0) hrzY
              simp only [List.getElem?_toArray, List.getElem?_cons_succ, List.getElem?_cons_zero] at z1
              have HI2 := hide (singest_any ((HT5.out.1.other HT1.out.2.1 HT1.out.2.2.2.2.2.1).below hbY) (HSP5.out.below hbY) (by have := HLL.out.1; omega) HLL.out.2)
              have HY := hide (And.intro hbY hry)
              clear hbY hry hrzY hrz5
              go_wp2_with fail
              refine HI2.out.mono ?_
              rintro e w6 hp6
              obtain ⟨he6, R6, ht6⟩ := hp6
              rw [HT5.out.2.2, HCE.out.1, HCE.out.2] at he6
              subst he6
              unfold cnV
              have hry6 := row_keep ((HT5.out.1.other HT1.out.2.1 HT1.out.2.2.2.2.2.1).below HY.out.1) ht6.chg HY.out.2 (cell_of_row Y by_ 0 _ 40 (0, 0) HY.out.2)
              have hT6 : TwoS w w6 gs bm gs2 bm2 := TwoS.step HT1.out.1 HT1.out.2.1 HT1.out.2.2.2.1 HT1.out.2.2.2.2.1 HT1.out.2.2.2.2.2.1 HT1.out.2.2.2.2.2.2 (HT5.out.1.below HY.out.1) ht6 HT5.out.2.1
              obtain ⟨V, hV⟩ : ∃ V, w6.alloc (.cells #[.int .i64 (C.add : Nat), .int .i64 (C.same : Nat), .int .i64 (C.other : Nat), .int .i64 (C.cyc : Nat), .int .i64 (C.full : Nat)] 40) = V := ⟨_, rfl⟩
              obtain ⟨bv, hbv⟩ : ∃ b, w6.heap.size = b := ⟨_, rfl⟩
              have hbV : Below w6.heap.size w6 V := by rw [← hV]; exact (Below.refl _ _).alloc (Nat.le_refl _) _
              have hrv : V.heap[bv]? = some (.cells #[.int .i64 (C.add : Nat), .int .i64 (C.same : Nat), .int .i64 (C.other : Nat), .int .i64 (C.cyc : Nat), .int .i64 (C.full : Nat)] 40 (0, 0)) := by rw [← hV, ← hbv]; exact heap_alloc_new _ _
              have hryV := (hbV.block by_ (Array.getElem?_eq_some_iff.1 hry6).1).trans hry6
              have HTV := hide (hT6.below hbV)
              have s0 : V.cell? ⟨by_, 0, none⟩ = some (.int .i64 (C.add : Nat)) := by have h := cell_of_row V by_ 0 _ 40 (0, 0) hryV; simpa using h
              have s1 : V.cell? ⟨by_, 1, none⟩ = some (.int .i64 (C.same : Nat)) := by have h := cell_of_row V by_ 1 _ 40 (0, 0) hryV; simpa using h
              have s2 : V.cell? ⟨by_, 2, none⟩ = some (.int .i64 (C.other : Nat)) := by have h := cell_of_row V by_ 2 _ 40 (0, 0) hryV; simpa using h
              have s3 : V.cell? ⟨by_, 3, none⟩ = some (.int .i64 (C.cyc : Nat)) := by have h := cell_of_row V by_ 3 _ 40 (0, 0) hryV; simpa using h
              have s4 : V.cell? ⟨by_, 4, none⟩ = some (.int .i64 (C.full : Nat)) := by have h := cell_of_row V by_ 4 _ 40 (0, 0) hryV; simpa using h
              have s5 : V.cell? ⟨bv, 0, none⟩ = some (.int .i64 (C.add : Nat)) := by have h := cell_of_row V bv 0 _ 40 (0, 0) hrv; simpa using h
              have s6 : V.cell? ⟨bv, 1, none⟩ = some (.int .i64 (C.same : Nat)) := by have h := cell_of_row V bv 1 _ 40 (0, 0) hrv; simpa using h
              have s7 : V.cell? ⟨bv, 2, none⟩ = some (.int .i64 (C.other : Nat)) := by have h := cell_of_row V bv 2 _ 40 (0, 0) hrv; simpa using h
              have s8 : V.cell? ⟨bv, 3, none⟩ = some (.int .i64 (C.cyc : Nat)) := by have h := cell_of_row V bv 3 _ 40 (0, 0) hrv; simpa using h
              have s9 : V.cell? ⟨bv, 4, none⟩ = some (.int .i64 (C.full : Nat)) := by have h := cell_of_row V bv 4 _ 40 (0, 0) hrv; simpa using h
              clear hT6 hry6 ht6 hbV hrv hryV
              go_upto_region 15 with fail
              clear hV hbv hY hby
              go_wp2
              go_roundw
              case rel => exact ⟨k + 1, by omega, by go_num, HTV⟩
              case measure => simp [intOf]; omega
          · obtain ⟨R', R2', t1, t2, t3, t4, t5, t6, t7⟩ := HR.out
            have SM := hide (ssameN_any t1 t2 t3)
            have HB7 := hide t7
            clear t1 t2 t3 t4 t5 t6 t7 HR
            go_wp2_with fail
            refine SM.out.mono ?_
            rintro e w7 ⟨rfl, hb7⟩
            have HB8 := hide (HB7.out.trans (hb7.mono HB7.out.size))
            clear hb7 SM
            go_wp2_with fail
            refine (HA.out _).mono ?_
            rintro e8 w8 ⟨rfl, hb8⟩
            have HB9 := hide (HB8.out.trans (hb8.mono HB8.out.size))
            clear hb8
            go_wp2
            go_ret
            exact ⟨rfl, HB9.out⟩
      · exact absurd (ld_img_ok HX.out.1.ok) hi
end Go.Proofs.YtimjplkehlgelaaGreat
