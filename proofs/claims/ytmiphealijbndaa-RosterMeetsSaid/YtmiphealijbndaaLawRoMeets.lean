/- The law RosterMeets. -/
import Derived.Test.YtmiphealijbndaaRLaw
namespace Go.Proofs.Ytmiphealijbndaa
set_option linter.unusedVariables false
set_option linter.unusedSimpArgs false
open Go.RowKit

theorem boxes3 {w V : World} {a b c : Value} (hV : Below (((w.alloc (.cells #[a] 22)).alloc (.cells #[b] 22)).alloc (.cells #[c] 22)).heap.size (((w.alloc (.cells #[a] 22)).alloc (.cells #[b] 22)).alloc (.cells #[c] 22)) V) :
    V.cell? ⟨w.heap.size, 0, none⟩ = some a ∧ V.cell? ⟨w.heap.size + 1, 0, none⟩ = some b ∧ V.cell? ⟨w.heap.size + 2, 0, none⟩ = some c := by
  have q : ∀ (U : World) (x : Value), (U.alloc (.cells #[x] 22)).cell? ⟨U.heap.size, 0, none⟩ = some x := fun U x => by
    rw [cell_of_row _ U.heap.size 0 _ _ (0, 0) (heap_alloc_new U _)]
    rfl
  have s1 : ∀ (U : World) (x : Value), (U.alloc (.cells #[x] 22)).heap.size = U.heap.size + 1 := fun U x => by simp
  have g1 : ∀ (U : World) (o : Obj), Below U.heap.size U (U.alloc o) := fun U o => (Below.refl _ _).alloc (Nat.le_refl _) _
  have h1 := q w a
  have h2 := ((g1 _ (.cells #[b] 22)).cell (lt_of_cell h1)).trans h1
  have h3 := ((g1 _ (.cells #[c] 22)).cell (lt_of_cell h2)).trans h2
  have i1 := q (w.alloc (.cells #[a] 22)) b
  have i2 := ((g1 _ (.cells #[c] 22)).cell (lt_of_cell i1)).trans i1
  have j1 := q ((w.alloc (.cells #[a] 22)).alloc (.cells #[b] 22)) c
  rw [s1] at i2
  rw [s1, s1] at j1
  exact ⟨(hV.cell (lt_of_cell h3)).trans h3, (hV.cell (lt_of_cell i2)).trans i2, (hV.cell (lt_of_cell j1)).trans j1⟩
def inC (T O N : List Int) (x : Int) : Bool := hasN T x && (hasN O x || hasN N x)
theorem anyC_true {S T O N : List Int} (h : ∃ x ∈ S, T.contains x = true ∧ (O.contains x = true ∨ N.contains x = true)) : S.any (inC T O N) = true := by
  obtain ⟨x, hx, h1, h2⟩ := h
  refine List.any_eq_true.2 ⟨x, hx, ?_⟩
  unfold inC hasN
  rw [h1, Bool.true_and, Bool.or_eq_true]
  exact h2
set_option maxRecDepth 200000 in
set_option maxHeartbeats 4000000 in
theorem inC_any {w : World} {b1 b2 b3 : Nat} {vt vo vn : Value} {T O N : List Int} (k1 : w.cell? ⟨b1, 0, none⟩ = some vt) (k2 : w.cell? ⟨b2, 0, none⟩ = some vo) (k3 : w.cell? ⟨b3, 0, none⟩ = some vn) (ht : Ns w vt T) (ho : Ns w vo O) (hn : Ns w vn N) (x : Int) :
    Calls Try.prog 30 #[.int .i64 x, .pointer (some ⟨b1, 0, none⟩), .pointer (some ⟨b2, 0, none⟩), .pointer (some ⟨b3, 0, none⟩)] w fun e w' => e = .returned (.bool (inC T O N x)) ∧ w = w' := by
  have H1 := hide (votes_any (n := x) ht)
  have H2 := hide (votes_any (n := x) ho)
  have H3 := hide (votes_any (n := x) hn)
  obtain ⟨p1, n1, c1, rfl⟩ := ht.sl
  obtain ⟨p2, n2, c2, rfl⟩ := ho.sl
  obtain ⟨p3, n3, c3, rfl⟩ := hn.sl
  have HX : Hid (inC T O N x = (hasN T x && (hasN O x || hasN N x))) := hide rfl
  unfold Vts at H1 H2 H3
  obtain ⟨q1, hq1⟩ : ∃ q, hasN T x = q := ⟨_, rfl⟩
  obtain ⟨q2, hq2⟩ : ∃ q, hasN O x = q := ⟨_, rfl⟩
  obtain ⟨q3, hq3⟩ : ∃ q, hasN N x = q := ⟨_, rfl⟩
  rw [hq1] at H1 HX
  rw [hq2] at H2 HX
  rw [hq3] at H3 HX
  clear hq1 hq2 hq3 ht ho hn
  go_enter Try.func30, Try.ntmps30
  go_wp2_with fail
  refine H1.out.mono ?_
  rintro e w9 ⟨rfl, rfl⟩
  cases q1
  · go_wp2
    go_ret
    exact ⟨ret_b HX.out, rfl⟩
  · go_wp2_with fail
    refine H2.out.mono ?_
    rintro e w9 ⟨rfl, rfl⟩
    cases q2
    · go_wp2_with fail
      refine H3.out.mono ?_
      rintro e w9 ⟨rfl, rfl⟩
      cases q3
      all_goals
        go_wp2
        go_ret
        exact ⟨ret_b HX.out, rfl⟩
    · go_wp2
      go_ret
      exact ⟨ret_b HX.out, rfl⟩
theorem meetsC_any {w : World} {b1 b2 b3 : Nat} {vs vt vo vn : Value} {S T O N : List Int} (hs : Ns w vs S) (ht : Ns w vt T) (ho : Ns w vo O) (hn : Ns w vn N) (k1 : w.cell? ⟨b1, 0, none⟩ = some vt) (k2 : w.cell? ⟨b2, 0, none⟩ = some vo) (k3 : w.cell? ⟨b3, 0, none⟩ = some vn) :
    Calls Try.prog 29 #[vs, .func (.func 30) #[] #[.pointer (some ⟨b1, 0, none⟩), .pointer (some ⟨b2, 0, none⟩), .pointer (some ⟨b3, 0, none⟩)]] w fun e w' => e = .returned (.bool (S.any (inC T O N))) ∧ ∃ q, w' = w.drewN q := by
  obtain ⟨p, n, c, rfl⟩ := hs.sl
  have hlen := hs.len
  have hn1 := hlen.1
  subst hn1
  have hbig : S.length ≤ maxLen := Nat.le_trans hlen.2.1 hlen.2.2
  unfold maxLen at hbig
  by_cases h0 : 0 < S.length
  · obtain ⟨g, o, rfl, hc⟩ := hs.at_ h0
    have := Try.slices_ContainsFunc (Value.int .i64) (inC T O N) 30 #[.pointer (some ⟨b1, 0, none⟩), .pointer (some ⟨b2, 0, none⟩), .pointer (some ⟨b3, 0, none⟩)] (enters_of Try.func30 (by kernel_rfl) rfl) g o S.length c S w
      (fun W x hb => (inC_any ((hb.cell (lt_of_cell k1)).trans k1) ((hb.cell (lt_of_cell k2)).trans k2) ((hb.cell (lt_of_cell k3)).trans k3) (ht.below hb) (ho.below hb) (hn.below hb) x).mono fun e w' ⟨he, hw⟩ => ⟨he, 0, hw.symm⟩) (Nat.le_refl _) (by omega)
      (fun j hj => by
        have := hs.getD j hj
        rw [this, List.getD_eq_getElem?_getD]
        simp [hj])
    rwa [List.take_length] at this
  · obtain rfl : S = [] := List.eq_nil_of_length_eq_zero (by omega)
    exact (Try.slices_ContainsFunc_empty (α := Int) p c _ _).mono fun e w' ⟨he, hw⟩ => ⟨he, 0, hw⟩

set_option maxRecDepth 200000 in
set_option maxHeartbeats 4000000 in
theorem lawMeets_any {w : World} {v : Value} {Lv : List Int} (hv : Ns w v Lv) {u : Value} {Lu : List Int} (hu : Ns w u Lu) {s : Value} {Ls : List Int} (hs : Ns w s Ls) {t : Value} {Lt : List Int} (ht : Ns w t Lt) : Calls Try.prog 8 #[v, u, s, t] w (Good w) := by
  have HAW := hide awake_any
  obtain ⟨pv, nv, cv, rfl⟩ := hv.sl
  obtain ⟨pu, nu, cu, rfl⟩ := hu.sl
  obtain ⟨ps, ns, cs, rfl⟩ := hs.sl
  obtain ⟨pt, nt, ct, rfl⟩ := ht.sl
  have b1 : Below w.heap.size w (((w.alloc (.cells #[.slice pv nv cv] 22)).alloc (.cells #[.slice pu nu cu] 22)).alloc (.cells #[.slice pt nt ct] 22)) := (((Below.refl _ _).alloc (Nat.le_refl _) _).alloc (by simp) _).alloc (by simp; omega) _
  have HKC : Hid (∀ V, Below (((w.alloc (.cells #[.slice pv nv cv] 22)).alloc (.cells #[.slice pu nu cu] 22)).alloc (.cells #[.slice pt nt ct] 22)).heap.size (((w.alloc (.cells #[.slice pv nv cv] 22)).alloc (.cells #[.slice pu nu cu] 22)).alloc (.cells #[.slice pt nt ct] 22)) V → V.cell? ⟨w.heap.size, 0, none⟩ = some (.slice pv nv cv) ∧ V.cell? ⟨w.heap.size + 1, 0, none⟩ = some (.slice pu nu cu) ∧ V.cell? ⟨w.heap.size + 2, 0, none⟩ = some (.slice pt nt ct)) := hide fun V hV => boxes3 hV
  have hv1 := hv.below b1
  have hu1 := hu.below b1
  have hs1 := hs.below b1
  have ht1 := ht.below b1
  have HB1 := hide b1
  obtain ⟨X, hX⟩ : ∃ X, ((w.alloc (.cells #[.slice pv nv cv] 22)).alloc (.cells #[.slice pu nu cu] 22)).alloc (.cells #[.slice pt nt ct] 22) = X := ⟨_, rfl⟩
  rw [hX] at hv1 hu1 hs1 ht1 HB1 HKC
  have b2 : Below X.heap.size X (X.alloc (.cells #[.slice pv nv cv, .slice pu nu cu, .slice ps ns cs, .slice pt nt ct] 22)) := (Below.refl _ _).alloc (Nat.le_refl _) _
  have HL := hide (light4 hv1 hu1 hs1 ht1)
  have HNv := hide (hv1.below b2)
  have HNu := hide (hu1.below b2)
  have HNs := hide (hs1.below b2)
  have HNt := hide (ht1.below b2)
  have HB := hide (HB1.out.trans (b2.mono HB1.out.size))
  have HX2 := hide b2
  obtain ⟨Y, hY⟩ : ∃ Y, X.alloc (.cells #[.slice pv nv cv, .slice pu nu cu, .slice ps ns cs, .slice pt nt ct] 22) = Y := ⟨_, rfl⟩
  obtain ⟨q, hq⟩ : ∃ q, lightN [Lv, Lu, Ls, Lt] = q := ⟨_, rfl⟩
  rw [hY] at HL HB HNv HNu HNs HNt HX2
  rw [hq] at HL
  have HQ := hide hq
  obtain ⟨k1, k2, k3⟩ := HKC.out X (Below.refl _ _)
  clear b1 b2 hq hv1 hu1 hs1 ht1 hv hu hs ht
  go_enter Try.func8, Try.ntmps8
  cases q
  · go_wp2_with fail
    refine HL.out.mono ?_
    rintro e w9 ⟨rfl, rfl⟩
    go_wp2_with fail
    refine (HAW.out _).mono ?_
    rintro e wz ⟨rfl, hbz⟩
    have HBZ := hide (HB.out.trans (hbz.mono HB.out.size))
    clear hbz
    go_wp2
    go_ret
    exact ⟨rfl, HBZ.out⟩
  · go_wp2_with fail
    refine HL.out.mono ?_
    rintro e w9 ⟨rfl, rfl⟩
    have HM1 := hide (may_any HNv.out HNu.out (Nat.le_trans (lightN_of HQ.out (by simp)) (by decide)) (Nat.le_trans (lightN_of HQ.out (by simp)) (by decide)))
    unfold MayPost at HM1
    obtain ⟨k1, k2, k3⟩ := HKC.out Y HX2.out
    obtain ⟨r, hr⟩ : ∃ r, mayI Lv Lu = r := ⟨_, rfl⟩
    rw [hr] at HM1
    have HR := hide hr
    clear hr
    go_wp2_with fail
    refine HM1.out.mono ?_
    rintro e w2 ⟨rfl, hb2⟩
    have HB2 := hide hb2
    clear hb2 k1 k2 k3
    obtain ⟨k1, k2, k3⟩ := HKC.out _ (HX2.out.trans (HB2.out.mono HX2.out.size))
    by_cases h0 : r = 0
    · subst h0
      have HMM : Hid (mayI Lv Lu = 0 ∨ (Lv = Lu ∧ okR Lv = true)) := hide (.inl HR.out)
      have HMB := hide (HB2.out)
      have HJ1 := hide (majority_any (HNv.out.below HMB.out) (HNs.out.below HMB.out))
      have HJ2 := hide (majority_any (HNu.out.below HMB.out) (HNt.out.below HMB.out))
      unfold Maj at HJ1 HJ2
      obtain ⟨j1, hj1⟩ : ∃ j, maj Lv Ls = j := ⟨_, rfl⟩
      obtain ⟨j2, hj2⟩ : ∃ j, maj Lu Lt = j := ⟨_, rfl⟩
      rw [hj1] at HJ1
      rw [hj2] at HJ2
      have HJJ := hide (And.intro hj1 hj2)
      have HBB := hide (HB.out.trans (HMB.out.mono HB.out.size))
      clear hj1 hj2
      go_wp2_with fail
      refine HJ1.out.mono ?_
      rintro e w9 ⟨rfl, rfl⟩
      cases j1
      · go_wp2_with fail
        refine (HAW.out _).mono ?_
        rintro e wz ⟨rfl, hbz⟩
        have HBZ := hide (HBB.out.trans (hbz.mono HBB.out.size))
        clear hbz
        go_wp2
        go_ret
        exact ⟨rfl, HBZ.out⟩
      · go_wp2_with fail
        refine HJ2.out.mono ?_
        rintro e w9 ⟨rfl, rfl⟩
        cases j2
        · go_wp2_with fail
          refine (HAW.out _).mono ?_
          rintro e wz ⟨rfl, hbz⟩
          have HBZ := hide (HBB.out.trans (hbz.mono HBB.out.size))
          clear hbz
          go_wp2
          go_ret
          exact ⟨rfl, HBZ.out⟩
        · have HCF := hide (meetsC_any (HNs.out.below HMB.out) (HNt.out.below HMB.out) (HNv.out.below HMB.out) (HNu.out.below HMB.out) (b1 := w.heap.size + 2) (b2 := w.heap.size) (b3 := w.heap.size + 1) k3 k1 k2)
          have HME := hide (meets (HMM.out) HJJ.out.1 HJJ.out.2)
          rw [anyC_true HME.out] at HCF
          go_wp2_with fail
          refine HCF.out.mono ?_
          rintro e w8 ⟨rfl, q8, hw8⟩
          have HB8 : Hid (Below w.heap.size w w8) := hide (by rw [hw8]; exact bel_drewN HBB.out q8)
          clear hw8
          go_wp2_with fail
          refine (HAW.out _).mono ?_
          rintro e wz ⟨rfl, hbz⟩
          have HBZ := hide (HB8.out.trans (hbz.mono HB8.out.size))
          clear hbz
          go_wp2
          go_ret
          exact ⟨rfl, HBZ.out⟩
    · have e0 : (r != 0) = true := by simpa using h0
      have HE := hide (equalN_any (HNv.out.below HB2.out) (HNu.out.below HB2.out))
      obtain ⟨s1, hs1⟩ : ∃ s, (Lv == Lu) = s := ⟨_, rfl⟩
      rw [hs1] at HE
      have HS1 := hide hs1
      clear hs1 h0
      go_wp2_with fail
      refine HE.out.mono ?_
      rintro e w3 ⟨rfl, q3, hw3⟩
      have HB3 : Hid (Below Y.heap.size Y w3) := hide (by rw [hw3]; exact bel_drewN HB2.out q3)
      have HBW := hide (HB.out.trans (HB3.out.mono HB.out.size))
      clear hw3 k1 k2 k3
      obtain ⟨k1, k2, k3⟩ := HKC.out _ (HX2.out.trans (HB3.out.mono HX2.out.size))
      cases s1
      · go_wp2_with fail
        refine (HAW.out _).mono ?_
        rintro e wz ⟨rfl, hbz⟩
        have HBZ := hide (HBW.out.trans (hbz.mono HBW.out.size))
        clear hbz
        go_wp2
        go_ret
        exact ⟨rfl, HBZ.out⟩
      · have HCK := hide (check_any (HNv.out.below HB3.out))
        unfold Chk at HCK
        obtain ⟨c1, hc1⟩ : ∃ q, okR Lv = q := ⟨_, rfl⟩
        rw [chkI_of hc1] at HCK
        have HC1 := hide hc1
        clear hc1
        go_wp2_with fail
        refine HCK.out.mono ?_
        cases c1
        · simp only [Bool.false_eq_true, if_false]
          rintro e w9 ⟨rfl, rfl⟩
          go_wp2_with fail
          refine (HAW.out _).mono ?_
          rintro e wz ⟨rfl, hbz⟩
          have HBZ := hide (HBW.out.trans (hbz.mono HBW.out.size))
          clear hbz
          go_wp2
          go_ret
          exact ⟨rfl, HBZ.out⟩
        · simp only [if_true]
          rintro e w9 ⟨rfl, rfl⟩
          have HMM : Hid (mayI Lv Lu = 0 ∨ (Lv = Lu ∧ okR Lv = true)) := hide (.inr ⟨by simpa using HS1.out, HC1.out⟩)
          have HMB := hide (HB3.out)
          have HJ1 := hide (majority_any (HNv.out.below HMB.out) (HNs.out.below HMB.out))
          have HJ2 := hide (majority_any (HNu.out.below HMB.out) (HNt.out.below HMB.out))
          unfold Maj at HJ1 HJ2
          obtain ⟨j1, hj1⟩ : ∃ j, maj Lv Ls = j := ⟨_, rfl⟩
          obtain ⟨j2, hj2⟩ : ∃ j, maj Lu Lt = j := ⟨_, rfl⟩
          rw [hj1] at HJ1
          rw [hj2] at HJ2
          have HJJ := hide (And.intro hj1 hj2)
          have HBB := hide (HB.out.trans (HMB.out.mono HB.out.size))
          clear hj1 hj2
          go_wp2_with fail
          refine HJ1.out.mono ?_
          rintro e w9 ⟨rfl, rfl⟩
          cases j1
          · go_wp2_with fail
            refine (HAW.out _).mono ?_
            rintro e wz ⟨rfl, hbz⟩
            have HBZ := hide (HBB.out.trans (hbz.mono HBB.out.size))
            clear hbz
            go_wp2
            go_ret
            exact ⟨rfl, HBZ.out⟩
          · go_wp2_with fail
            refine HJ2.out.mono ?_
            rintro e w9 ⟨rfl, rfl⟩
            cases j2
            · go_wp2_with fail
              refine (HAW.out _).mono ?_
              rintro e wz ⟨rfl, hbz⟩
              have HBZ := hide (HBB.out.trans (hbz.mono HBB.out.size))
              clear hbz
              go_wp2
              go_ret
              exact ⟨rfl, HBZ.out⟩
            · have HCF := hide (meetsC_any (HNs.out.below HMB.out) (HNt.out.below HMB.out) (HNv.out.below HMB.out) (HNu.out.below HMB.out) (b1 := w.heap.size + 2) (b2 := w.heap.size) (b3 := w.heap.size + 1) k3 k1 k2)
              have HME := hide (meets (HMM.out) HJJ.out.1 HJJ.out.2)
              rw [anyC_true HME.out] at HCF
              go_wp2_with fail
              refine HCF.out.mono ?_
              rintro e w8 ⟨rfl, q8, hw8⟩
              have HB8 : Hid (Below w.heap.size w w8) := hide (by rw [hw8]; exact bel_drewN HBB.out q8)
              clear hw8
              go_wp2_with fail
              refine (HAW.out _).mono ?_
              rintro e wz ⟨rfl, hbz⟩
              have HBZ := hide (HB8.out.trans (hbz.mono HB8.out.size))
              clear hbz
              go_wp2
              go_ret
              exact ⟨rfl, HBZ.out⟩
end Go.Proofs.Ytmiphealijbndaa
