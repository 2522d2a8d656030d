/- The law LedgerOrder. -/
import Derived.Test.YtfbkgnkgpbpphaaLLaw
namespace Go.Proofs.Ytfbkgnkgpbpphaa
set_option linter.unusedVariables false
set_option linter.unusedSimpArgs false
open Go.RowKit

def fr (x y : Lg) : Bool := freshI y x.end_.1 x.end_.2
theorem fr_iff {x y : Lg} : fr x y = true ↔ y.end_.2 < x.end_.2 ∨ (x.end_.2 = y.end_.2 ∧ y.end_.1 ≤ x.end_.1) := by
  unfold fr freshI
  simp [Bool.or_eq_true, Bool.and_eq_true, decide_eq_true_eq]
theorem fr_total (x y : Lg) : (fr x y || fr y x) = true := by
  rw [Bool.or_eq_true, fr_iff, fr_iff]
  omega
theorem fr_refl (x : Lg) : fr x x = true := by
  rw [fr_iff]
  omega
theorem fr_trans {A B C : Lg} : fr A B = true → fr B C = true → fr A C = true := by
  rw [fr_iff, fr_iff, fr_iff]
  omega
/-- The law's own function. -/
theorem frC_any {w : World} {g h : Nat} {x y : Lg} (hx : LgIs w g x) (hy : LgIs w h y) : Calls Try.prog 36 #[.pointer (some ⟨g, 0, none⟩), .pointer (some ⟨h, 0, none⟩)] w fun e w' => e = .returned (.bool (fr x y)) ∧ Below w.heap.size w w' := by
  have HL := hide (last_any hx)
  have HF := hide (fun V (hV : Below w.heap.size w V) => fresh_any (hy.below hV) x.end_.1 x.end_.2)
  have HX : Hid (fr x y = freshI y x.end_.1 x.end_.2) := hide rfl
  obtain ⟨a, ha⟩ : ∃ a, x.end_.1 = a := ⟨_, rfl⟩
  obtain ⟨b, hb⟩ : ∃ b, x.end_.2 = b := ⟨_, rfl⟩
  rw [ha, hb] at HL HX
  simp only [ha, hb] at HF
  obtain ⟨f, hf⟩ : ∃ f, freshI y a b = f := ⟨_, rfl⟩
  rw [hf] at HX
  simp only [hf] at HF
  clear hx hy ha hb hf
  go_enter Try.func36, Try.ntmps36
  go_wp2_with fail
  refine HL.out.mono ?_
  rintro e w2 ⟨rfl, hb2⟩
  have HB2 := hide hb2
  clear hb2
  go_wp2_with fail
  refine (HF.out _ HB2.out).mono ?_
  rintro e w3 ⟨rfl, hb3⟩
  have HB3 := hide (HB2.out.trans (hb3.mono HB2.out.size))
  clear hb3
  go_wp2
  go_ret
  exact ⟨ret_b HX.out, HB3.out⟩
def Boxed (V : World) (b : Nat) (ix tm : Int) (p : Option Addr) (n c : Nat) : Prop := V.cell? ⟨b, 0, none⟩ = some (.int .i64 ix) ∧ V.cell? ⟨b, 1, none⟩ = some (.int .i64 tm) ∧ V.cell? ⟨b, 2, none⟩ = some (.slice p n c)
theorem Boxed.below {w w' : World} {b : Nat} {ix tm : Int} {p : Option Addr} {n c : Nat} (h : Boxed w b ix tm p n c) (hb : Below w.heap.size w w') : Boxed w' b ix tm p n c := ⟨(hb.cell (lt_of_cell h.1)).trans h.1, (hb.cell (lt_of_cell h.2.1)).trans h.2.1, (hb.cell (lt_of_cell h.2.2)).trans h.2.2⟩
theorem boxes9 {w V : World} {ixa tma ixb tmb ixd tmd : Int} {pa pb pd : Option Addr} {na ca nb cb nd cd : Nat} (hV : Below (((w.alloc (.cells #[.int .i64 ixa, .int .i64 tma, .slice pa na ca] 24)).alloc (.cells #[.int .i64 ixb, .int .i64 tmb, .slice pb nb cb] 24)).alloc (.cells #[.int .i64 ixd, .int .i64 tmd, .slice pd nd cd] 24)).heap.size (((w.alloc (.cells #[.int .i64 ixa, .int .i64 tma, .slice pa na ca] 24)).alloc (.cells #[.int .i64 ixb, .int .i64 tmb, .slice pb nb cb] 24)).alloc (.cells #[.int .i64 ixd, .int .i64 tmd, .slice pd nd cd] 24)) V) : Boxed V w.heap.size ixa tma pa na ca ∧ Boxed V (w.heap.size + 1) ixb tmb pb nb cb ∧ Boxed V (w.heap.size + 2) ixd tmd pd nd cd := by
  have g1 : ∀ (U : World) (o : Obj), Below U.heap.size U (U.alloc o) := fun U o => (Below.refl _ _).alloc (Nat.le_refl _) _
  have s1 : ∀ (U : World) (o : Obj), (U.alloc o).heap.size = U.heap.size + 1 := fun U o => by simp
  have a1 : Boxed (w.alloc (.cells #[.int .i64 ixa, .int .i64 tma, .slice pa na ca] 24)) w.heap.size ixa tma pa na ca := box3 w _ _ _ _
  have a2 : Boxed ((w.alloc (.cells #[.int .i64 ixa, .int .i64 tma, .slice pa na ca] 24)).alloc (.cells #[.int .i64 ixb, .int .i64 tmb, .slice pb nb cb] 24)) (w.alloc (.cells #[.int .i64 ixa, .int .i64 tma, .slice pa na ca] 24)).heap.size ixb tmb pb nb cb := box3 _ _ _ _ _
  have a3 : Boxed (((w.alloc (.cells #[.int .i64 ixa, .int .i64 tma, .slice pa na ca] 24)).alloc (.cells #[.int .i64 ixb, .int .i64 tmb, .slice pb nb cb] 24)).alloc (.cells #[.int .i64 ixd, .int .i64 tmd, .slice pd nd cd] 24)) ((w.alloc (.cells #[.int .i64 ixa, .int .i64 tma, .slice pa na ca] 24)).alloc (.cells #[.int .i64 ixb, .int .i64 tmb, .slice pb nb cb] 24)).heap.size ixd tmd pd nd cd := box3 _ _ _ _ _
  rw [s1] at a2
  rw [s1, s1] at a3
  exact ⟨((a1.below (g1 _ _)).below (g1 _ _)).below hV, (a2.below (g1 _ _)).below hV, a3.below hV⟩

set_option maxRecDepth 200000 in
set_option maxHeartbeats 4000000 in
theorem lawOrder_any {w : World} {ixa tma : Int} {pa : Option Addr} {na ca : Nat} {La : List En} (hva : Ens w (.slice pa na ca) La) (hixa : fits ixa) (hsza : La.length * 40 ≤ 140737488351232) {ixb tmb : Int} {pb : Option Addr} {nb cb : Nat} {Lb : List En} (hvb : Ens w (.slice pb nb cb) Lb) (hixb : fits ixb) (hszb : Lb.length * 40 ≤ 140737488351232) {ixd tmd : Int} {pd : Option Addr} {nd cd : Nat} {Ld : List En} (hvd : Ens w (.slice pd nd cd) Ld) (hixd : fits ixd) (hszd : Ld.length * 40 ≤ 140737488351232) : Calls Try.prog 6 #[.agg #[.int .i64 ixa, .int .i64 tma, .slice pa na ca], .agg #[.int .i64 ixb, .int .i64 tmb, .slice pb nb cb], .agg #[.int .i64 ixd, .int .i64 tmd, .slice pd nd cd]] w (Good w) := by
  have HAW := hide awake_any
  have HKC : Hid (∀ V, Below (((w.alloc (.cells #[.int .i64 ixa, .int .i64 tma, .slice pa na ca] 24)).alloc (.cells #[.int .i64 ixb, .int .i64 tmb, .slice pb nb cb] 24)).alloc (.cells #[.int .i64 ixd, .int .i64 tmd, .slice pd nd cd] 24)).heap.size (((w.alloc (.cells #[.int .i64 ixa, .int .i64 tma, .slice pa na ca] 24)).alloc (.cells #[.int .i64 ixb, .int .i64 tmb, .slice pb nb cb] 24)).alloc (.cells #[.int .i64 ixd, .int .i64 tmd, .slice pd nd cd] 24)) V → Boxed V w.heap.size ixa tma pa na ca ∧ Boxed V (w.heap.size + 1) ixb tmb pb nb cb ∧ Boxed V (w.heap.size + 2) ixd tmd pd nd cd) := hide fun V hV => boxes9 hV
  have b1 : Below w.heap.size w (((w.alloc (.cells #[.int .i64 ixa, .int .i64 tma, .slice pa na ca] 24)).alloc (.cells #[.int .i64 ixb, .int .i64 tmb, .slice pb nb cb] 24)).alloc (.cells #[.int .i64 ixd, .int .i64 tmd, .slice pd nd cd] 24)) := (((Below.refl _ _).alloc (Nat.le_refl _) _).alloc (by simp) _).alloc (by simp; omega) _
  have ha1 := hva.below b1
  have HFa := hide hixa
  have hb1 := hvb.below b1
  have HFb := hide hixb
  have hd1 := hvd.below b1
  have HFd := hide hixd
  obtain ⟨X, hX⟩ : ∃ X, ((w.alloc (.cells #[.int .i64 ixa, .int .i64 tma, .slice pa na ca] 24)).alloc (.cells #[.int .i64 ixb, .int .i64 tmb, .slice pb nb cb] 24)).alloc (.cells #[.int .i64 ixd, .int .i64 tmd, .slice pd nd cd] 24) = X := ⟨_, rfl⟩
  rw [hX] at b1 HKC ha1 hb1 hd1
  have b2 : Below X.heap.size X (X.alloc (.cells #[.slice pa na ca, .slice pb nb cb, .slice pd nd cd] 22)) := (Below.refl _ _).alloc (Nat.le_refl _) _
  have HL := hide (light3 ha1 hb1 hd1 hsza hszb hszd)
  have HVa := hide (ha1.below b2)
  have HVb := hide (hb1.below b2)
  have HVd := hide (hd1.below b2)
  have HBW := hide (b1.trans (b2.mono b1.size))
  obtain ⟨Y, hY⟩ : ∃ Y, X.alloc (.cells #[.slice pa na ca, .slice pb nb cb, .slice pd nd cd] 22) = Y := ⟨_, rfl⟩
  obtain ⟨q, hq⟩ : ∃ q, lightL [La, Lb, Ld] = q := ⟨_, rfl⟩
  rw [hY] at HL HVa HVb HVd HBW b2
  have HX2 := hide b2
  rw [hq] at HL
  have HQ := hide hq
  obtain ⟨⟨k0, k1, k2⟩, ⟨k3, k4, k5⟩, k6, k7, k8⟩ := HKC.out X (Below.refl _ _)
  clear b1 b2 hq hva hvb hvd ha1 hb1 hd1 hixa hixb hixd hsza hszb hszd
  go_enter Try.func6, Try.ntmps6
  cases q
  · go_wp2_with fail
    refine HL.out.mono ?_
    rintro e w9 ⟨rfl, rfl⟩
    go_wp2_with fail
    refine (HAW.out _).mono ?_
    rintro e wz ⟨rfl, hbz⟩
    have HBZ := hide (HBW.out.trans (hbz.mono HBW.out.size))
    clear hbz
    go_wp2
    go_ret
    exact ⟨rfl, HBZ.out⟩
  · go_wp2_with fail
    refine HL.out.mono ?_
    rintro e w9 ⟨rfl, rfl⟩
    obtain ⟨⟨k0, k1, k2⟩, ⟨k3, k4, k5⟩, k6, k7, k8⟩ := HKC.out Y HX2.out
    have HMDa := hide (made2_any (tm := tma) HVa.out HFa.out (Nat.le_trans (lightL_few HQ.out (l := La) (by simp)) (by decide)))
    obtain ⟨ra, hra⟩ : ∃ r, (good ixa tma && goOn ixa tma La) = r := ⟨_, rfl⟩
    rw [hra] at HMDa
    clear hra
    go_wp2_with fail
    refine HMDa.out.mono ?_
    rintro e w2 ⟨hbw2, hqa⟩
    have HBa : Hid (Below Y.heap.size Y w2) := hide hbw2
    clear k0 k1 k2 k3 k4 k5 k6 k7 k8
    obtain ⟨⟨k0, k1, k2⟩, ⟨k3, k4, k5⟩, k6, k7, k8⟩ := HKC.out _ (HX2.out.trans (HBa.out.mono HX2.out.size))
    have HWa := hide hbw2
    clear hbw2
    cases ra
    · rw [if_neg (by simp)] at hqa
      subst hqa
      have HMDb := hide (made2_any (tm := tmb) (HVb.out.below HBa.out) HFb.out (Nat.le_trans (lightL_few HQ.out (l := Lb) (by simp)) (by decide)))
      obtain ⟨rb, hrb⟩ : ∃ r, (good ixb tmb && goOn ixb tmb Lb) = r := ⟨_, rfl⟩
      rw [hrb] at HMDb
      clear hrb
      go_wp2_with fail
      refine HMDb.out.mono ?_
      rintro e w3 ⟨hbw3, hqb⟩
      have HBb : Hid (Below Y.heap.size Y w3) := hide (HBa.out.trans (hbw3.mono HBa.out.size))
      clear k0 k1 k2 k3 k4 k5 k6 k7 k8
      obtain ⟨⟨k0, k1, k2⟩, ⟨k3, k4, k5⟩, k6, k7, k8⟩ := HKC.out _ (HX2.out.trans (HBb.out.mono HX2.out.size))
      have HWb := hide hbw3
      clear hbw3
      cases rb
      · rw [if_neg (by simp)] at hqb
        subst hqb
        have HMDd := hide (made2_any (tm := tmd) (HVd.out.below HBb.out) HFd.out (Nat.le_trans (lightL_few HQ.out (l := Ld) (by simp)) (by decide)))
        obtain ⟨rd, hrd⟩ : ∃ r, (good ixd tmd && goOn ixd tmd Ld) = r := ⟨_, rfl⟩
        rw [hrd] at HMDd
        clear hrd
        go_wp2_with fail
        refine HMDd.out.mono ?_
        rintro e w4 ⟨hbw4, hqd⟩
        have HBd : Hid (Below Y.heap.size Y w4) := hide (HBb.out.trans (hbw4.mono HBb.out.size))
        clear k0 k1 k2 k3 k4 k5 k6 k7 k8
        obtain ⟨⟨k0, k1, k2⟩, ⟨k3, k4, k5⟩, k6, k7, k8⟩ := HKC.out _ (HX2.out.trans (HBd.out.mono HX2.out.size))
        have HWd := hide hbw4
        clear hbw4
        cases rd
        · rw [if_neg (by simp)] at hqd
          subst hqd
          have HBE := hide (HBW.out.trans (HBd.out.mono HBW.out.size))
          go_wp2_with fail
          refine (HAW.out _).mono ?_
          rintro e wz ⟨rfl, hbz⟩
          have HBZ := hide (HBE.out.trans (hbz.mono HBE.out.size))
          clear hbz
          go_wp2
          go_ret
          exact ⟨rfl, HBZ.out⟩
        · rw [if_pos rfl] at hqd
          obtain ⟨gld, gxd, rfl, hld, hxd⟩ := hqd
          have HLd := hide hld.is
          clear hld hxd
          have HBE := hide (HBW.out.trans (HBd.out.mono HBW.out.size))
          go_wp2_with fail
          refine (HAW.out _).mono ?_
          rintro e wz ⟨rfl, hbz⟩
          have HBZ := hide (HBE.out.trans (hbz.mono HBE.out.size))
          clear hbz
          go_wp2
          go_ret
          exact ⟨rfl, HBZ.out⟩
      · rw [if_pos rfl] at hqb
        obtain ⟨glb, gxb, rfl, hlb, hxb⟩ := hqb
        have HLb := hide hlb.is
        clear hlb hxb
        have HMDd := hide (made2_any (tm := tmd) (HVd.out.below HBb.out) HFd.out (Nat.le_trans (lightL_few HQ.out (l := Ld) (by simp)) (by decide)))
        obtain ⟨rd, hrd⟩ : ∃ r, (good ixd tmd && goOn ixd tmd Ld) = r := ⟨_, rfl⟩
        rw [hrd] at HMDd
        clear hrd
        go_wp2_with fail
        refine HMDd.out.mono ?_
        rintro e w4 ⟨hbw4, hqd⟩
        have HBd : Hid (Below Y.heap.size Y w4) := hide (HBb.out.trans (hbw4.mono HBb.out.size))
        clear k0 k1 k2 k3 k4 k5 k6 k7 k8
        obtain ⟨⟨k0, k1, k2⟩, ⟨k3, k4, k5⟩, k6, k7, k8⟩ := HKC.out _ (HX2.out.trans (HBd.out.mono HX2.out.size))
        have HWd := hide hbw4
        clear hbw4
        cases rd
        · rw [if_neg (by simp)] at hqd
          subst hqd
          have HBE := hide (HBW.out.trans (HBd.out.mono HBW.out.size))
          go_wp2_with fail
          refine (HAW.out _).mono ?_
          rintro e wz ⟨rfl, hbz⟩
          have HBZ := hide (HBE.out.trans (hbz.mono HBE.out.size))
          clear hbz
          go_wp2
          go_ret
          exact ⟨rfl, HBZ.out⟩
        · rw [if_pos rfl] at hqd
          obtain ⟨gld, gxd, rfl, hld, hxd⟩ := hqd
          have HLd := hide hld.is
          clear hld hxd
          have HBE := hide (HBW.out.trans (HBd.out.mono HBW.out.size))
          go_wp2_with fail
          refine (HAW.out _).mono ?_
          rintro e wz ⟨rfl, hbz⟩
          have HBZ := hide (HBE.out.trans (hbz.mono HBE.out.size))
          clear hbz
          go_wp2
          go_ret
          exact ⟨rfl, HBZ.out⟩
    · rw [if_pos rfl] at hqa
      obtain ⟨gla, gxa, rfl, hla, hxa⟩ := hqa
      have HLa := hide hla.is
      clear hla hxa
      have HMDb := hide (made2_any (tm := tmb) (HVb.out.below HBa.out) HFb.out (Nat.le_trans (lightL_few HQ.out (l := Lb) (by simp)) (by decide)))
      obtain ⟨rb, hrb⟩ : ∃ r, (good ixb tmb && goOn ixb tmb Lb) = r := ⟨_, rfl⟩
      rw [hrb] at HMDb
      clear hrb
      go_wp2_with fail
      refine HMDb.out.mono ?_
      rintro e w3 ⟨hbw3, hqb⟩
      have HBb : Hid (Below Y.heap.size Y w3) := hide (HBa.out.trans (hbw3.mono HBa.out.size))
      clear k0 k1 k2 k3 k4 k5 k6 k7 k8
      obtain ⟨⟨k0, k1, k2⟩, ⟨k3, k4, k5⟩, k6, k7, k8⟩ := HKC.out _ (HX2.out.trans (HBb.out.mono HX2.out.size))
      have HWb := hide hbw3
      clear hbw3
      cases rb
      · rw [if_neg (by simp)] at hqb
        subst hqb
        have HMDd := hide (made2_any (tm := tmd) (HVd.out.below HBb.out) HFd.out (Nat.le_trans (lightL_few HQ.out (l := Ld) (by simp)) (by decide)))
        obtain ⟨rd, hrd⟩ : ∃ r, (good ixd tmd && goOn ixd tmd Ld) = r := ⟨_, rfl⟩
        rw [hrd] at HMDd
        clear hrd
        go_wp2_with fail
        refine HMDd.out.mono ?_
        rintro e w4 ⟨hbw4, hqd⟩
        have HBd : Hid (Below Y.heap.size Y w4) := hide (HBb.out.trans (hbw4.mono HBb.out.size))
        clear k0 k1 k2 k3 k4 k5 k6 k7 k8
        obtain ⟨⟨k0, k1, k2⟩, ⟨k3, k4, k5⟩, k6, k7, k8⟩ := HKC.out _ (HX2.out.trans (HBd.out.mono HX2.out.size))
        have HWd := hide hbw4
        clear hbw4
        cases rd
        · rw [if_neg (by simp)] at hqd
          subst hqd
          have HBE := hide (HBW.out.trans (HBd.out.mono HBW.out.size))
          go_wp2_with fail
          refine (HAW.out _).mono ?_
          rintro e wz ⟨rfl, hbz⟩
          have HBZ := hide (HBE.out.trans (hbz.mono HBE.out.size))
          clear hbz
          go_wp2
          go_ret
          exact ⟨rfl, HBZ.out⟩
        · rw [if_pos rfl] at hqd
          obtain ⟨gld, gxd, rfl, hld, hxd⟩ := hqd
          have HLd := hide hld.is
          clear hld hxd
          have HBE := hide (HBW.out.trans (HBd.out.mono HBW.out.size))
          go_wp2_with fail
          refine (HAW.out _).mono ?_
          rintro e wz ⟨rfl, hbz⟩
          have HBZ := hide (HBE.out.trans (hbz.mono HBE.out.size))
          clear hbz
          go_wp2
          go_ret
          exact ⟨rfl, HBZ.out⟩
      · rw [if_pos rfl] at hqb
        obtain ⟨glb, gxb, rfl, hlb, hxb⟩ := hqb
        have HLb := hide hlb.is
        clear hlb hxb
        have HMDd := hide (made2_any (tm := tmd) (HVd.out.below HBb.out) HFd.out (Nat.le_trans (lightL_few HQ.out (l := Ld) (by simp)) (by decide)))
        obtain ⟨rd, hrd⟩ : ∃ r, (good ixd tmd && goOn ixd tmd Ld) = r := ⟨_, rfl⟩
        rw [hrd] at HMDd
        clear hrd
        go_wp2_with fail
        refine HMDd.out.mono ?_
        rintro e w4 ⟨hbw4, hqd⟩
        have HBd : Hid (Below Y.heap.size Y w4) := hide (HBb.out.trans (hbw4.mono HBb.out.size))
        clear k0 k1 k2 k3 k4 k5 k6 k7 k8
        obtain ⟨⟨k0, k1, k2⟩, ⟨k3, k4, k5⟩, k6, k7, k8⟩ := HKC.out _ (HX2.out.trans (HBd.out.mono HX2.out.size))
        have HWd := hide hbw4
        clear hbw4
        cases rd
        · rw [if_neg (by simp)] at hqd
          subst hqd
          have HBE := hide (HBW.out.trans (HBd.out.mono HBW.out.size))
          go_wp2_with fail
          refine (HAW.out _).mono ?_
          rintro e wz ⟨rfl, hbz⟩
          have HBZ := hide (HBE.out.trans (hbz.mono HBE.out.size))
          clear hbz
          go_wp2
          go_ret
          exact ⟨rfl, HBZ.out⟩
        · rw [if_pos rfl] at hqd
          obtain ⟨gld, gxd, rfl, hld, hxd⟩ := hqd
          have HLd := hide hld.is
          clear hld hxd
          have HBE := hide (HBW.out.trans (HBd.out.mono HBW.out.size))
          have HLA : Hid (∀ V, Below w4.heap.size w4 V → LgIs V gla ⟨ixa, tma, La⟩) := hide fun V hV => ((HLa.out.below HWb.out).below HWd.out).below hV
          have HLB : Hid (∀ V, Below w4.heap.size w4 V → LgIs V glb ⟨ixb, tmb, Lb⟩) := hide fun V hV => (HLb.out.below HWd.out).below hV
          have HLD : Hid (∀ V, Below w4.heap.size w4 V → LgIs V gld ⟨ixd, tmd, Ld⟩) := hide fun V hV => HLd.out.below hV
          obtain ⟨A, hA⟩ : ∃ A : Lg, (⟨ixa, tma, La⟩ : Lg) = A := ⟨_, rfl⟩
          obtain ⟨B, hB⟩ : ∃ B : Lg, (⟨ixb, tmb, Lb⟩ : Lg) = B := ⟨_, rfl⟩
          obtain ⟨D, hD⟩ : ∃ D : Lg, (⟨ixd, tmd, Ld⟩ : Lg) = D := ⟨_, rfl⟩
          rw [hA] at HLA
          rw [hB] at HLB
          rw [hD] at HLD
          clear hA hB hD k0 k1 k2 k3 k4 k5 k6 k7 k8
          have HTOT := hide (fr_total A B)
          have HREF := hide (fr_refl A)
          have HTRA := hide (fr_trans (A := A) (B := B) (C := D))
          have HAB := hide (fun V hV => frC_any (HLA.out V hV) (HLB.out V hV))
          have HBA := hide (fun V hV => frC_any (HLB.out V hV) (HLA.out V hV))
          have HAA := hide (fun V hV => frC_any (HLA.out V hV) (HLA.out V hV))
          have HBD := hide (fun V hV => frC_any (HLB.out V hV) (HLD.out V hV))
          have HAD := hide (fun V hV => frC_any (HLA.out V hV) (HLD.out V hV))
          obtain ⟨fab, qab⟩ : ∃ f, fr A B = f := ⟨_, rfl⟩
          obtain ⟨fba, qba⟩ : ∃ f, fr B A = f := ⟨_, rfl⟩
          obtain ⟨fbd, qbd⟩ : ∃ f, fr B D = f := ⟨_, rfl⟩
          obtain ⟨fad, qad⟩ : ∃ f, fr A D = f := ⟨_, rfl⟩
          rw [qab] at HAB HTOT HTRA
          rw [qba] at HBA HTOT
          rw [qbd] at HBD HTRA
          rw [qad] at HAD HTRA
          rw [HREF.out] at HAA
          clear qab qba qbd qad
          have HR4 := hide (Below.refl w4.heap.size w4)
          cases fab
          · have hba : fba = true := by simpa using HTOT.out
            subst hba
            go_wp2_with fail
            refine (HAB.out _ HR4.out).mono ?_
            rintro e w5 ⟨rfl, hbw5⟩
            have HC5 := hide (HR4.out.trans (hbw5.mono HR4.out.size))
            clear hbw5
            go_wp2_with fail
            refine (HBA.out _ HC5.out).mono ?_
            rintro e w6 ⟨rfl, hbw6⟩
            have HC6 := hide (HC5.out.trans (hbw6.mono HC5.out.size))
            clear hbw6
            go_wp2_with fail
            refine (HAA.out _ HC6.out).mono ?_
            rintro e w7 ⟨rfl, hbw7⟩
            have HC7 := hide (HC6.out.trans (hbw7.mono HC6.out.size))
            clear hbw7
            go_wp2_with fail
            refine (HAB.out _ HC7.out).mono ?_
            rintro e w8 ⟨rfl, hbw8⟩
            have HC8 := hide (HC7.out.trans (hbw8.mono HC7.out.size))
            clear hbw8
            have HBE2 := hide (HBE.out.trans (HC8.out.mono HBE.out.size))
            go_wp2_with fail
            refine (HAW.out _).mono ?_
            rintro e wz ⟨rfl, hbz⟩
            have HBZ := hide (HBE2.out.trans (hbz.mono HBE2.out.size))
            clear hbz
            go_wp2
            go_ret
            exact ⟨rfl, HBZ.out⟩
          · go_wp2_with fail
            refine (HAB.out _ HR4.out).mono ?_
            rintro e w5 ⟨rfl, hbw5⟩
            have HC5 := hide (HR4.out.trans (hbw5.mono HR4.out.size))
            clear hbw5
            go_wp2_with fail
            refine (HAA.out _ HC5.out).mono ?_
            rintro e w6 ⟨rfl, hbw6⟩
            have HC6 := hide (HC5.out.trans (hbw6.mono HC5.out.size))
            clear hbw6
            go_wp2_with fail
            refine (HAB.out _ HC6.out).mono ?_
            rintro e w7 ⟨rfl, hbw7⟩
            have HC7 := hide (HC6.out.trans (hbw7.mono HC6.out.size))
            clear hbw7
            go_wp2_with fail
            refine (HBD.out _ HC7.out).mono ?_
            rintro e w8 ⟨rfl, hbw8⟩
            have HC8 := hide (HC7.out.trans (hbw8.mono HC7.out.size))
            clear hbw8
            cases fbd
            · have HBE2 := hide (HBE.out.trans (HC8.out.mono HBE.out.size))
              go_wp2_with fail
              refine (HAW.out _).mono ?_
              rintro e wz ⟨rfl, hbz⟩
              have HBZ := hide (HBE2.out.trans (hbz.mono HBE2.out.size))
              clear hbz
              go_wp2
              go_ret
              exact ⟨rfl, HBZ.out⟩
            · have had : fad = true := by simpa using HTRA.out
              subst had
              go_wp2_with fail
              refine (HAD.out _ HC8.out).mono ?_
              rintro e w9 ⟨rfl, hbw9⟩
              have HC9 := hide (HC8.out.trans (hbw9.mono HC8.out.size))
              clear hbw9
              have HBE2 := hide (HBE.out.trans (HC9.out.mono HBE.out.size))
              go_wp2_with fail
              refine (HAW.out _).mono ?_
              rintro e wz ⟨rfl, hbz⟩
              have HBZ := hide (HBE2.out.trans (hbz.mono HBE2.out.size))
              clear hbz
              go_wp2
              go_ret
              exact ⟨rfl, HBZ.out⟩
end Go.Proofs.Ytfbkgnkgpbpphaa
