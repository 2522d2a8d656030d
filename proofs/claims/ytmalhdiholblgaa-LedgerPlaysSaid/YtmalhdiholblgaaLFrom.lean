/- The entries from an index on: the program's From. -/
import Derived.Test.YtmalhdiholblgaaLSame
namespace Go.Proofs.Ytmalhdiholblgaa
set_option linter.unusedVariables false
set_option linter.unusedSimpArgs false
open Go.RowKit

theorem Ens.pre {w : World} {g o n c : Nat} {L : List En} (h : Ens w (.slice (some ⟨g, o, none⟩) n c) L) {m : Nat} (hm : m ≤ n) : Ens w (.slice (some ⟨g, o, none⟩) m c) (L.take m) := by
  obtain ⟨E, h1, h2⟩ := h
  refine ⟨E.take m, ?_, h2.take m⟩
  obtain ⟨hn, hc, hx9⟩ := h1.len
  refine ⟨some ⟨g, o, none⟩, c, by rw [List.length_take, Nat.min_eq_left (by omega)], by rw [List.length_take]; omega, hx9, (fun e => by cases e), fun h0 => ?_⟩
  rw [List.length_take] at h0
  obtain ⟨g', o', e, hx⟩ := h1.at_ (by omega)
  refine ⟨g', o', e, fun i x hi => ?_⟩
  have hil := (List.getElem?_eq_some_iff.1 hi).1
  rw [List.length_take] at hil
  rw [List.getElem?_take_of_lt (by omega)] at hi
  exact hx i x hi
theorem take_min (l : List En) (a : Nat) : l.take (min a l.length) = l.take a := by
  by_cases h : a ≤ l.length
  · rw [Nat.min_eq_left h]
  · rw [Nat.min_eq_right (by omega), List.take_length, List.take_of_length_le (by omega)]
theorem goOn_all {x : Lg} (h : x.Ok) : ∀ y ∈ x.l, y.d.length ≤ 4096 := goOn_data h.on
set_option maxRecDepth 200000 in
set_option maxHeartbeats 4000000 in
theorem from_any {w : World} {g : Nat} {x : Lg} (h : LgIs w g x) (h9 : x.l.length ≤ 100000) (index most : Int) (hmf : fits most) : Calls Try.prog 47 #[.pointer (some ⟨g, 0, none⟩), .int .i64 index, .int .i64 most] w (OwnPost w (x.from_ index most)) := by
  have HM := hide (made_any h)
  have HH := hide (has_any h index)
  have HW := hide h
  have HMF := hide hmf
  by_cases hh : hasI x index = true
  · rw [hh] at HH
    simp only [hasI, Bool.and_eq_true, decide_eq_true_eq] at hh
    obtain ⟨h1, h2⟩ := hh
    have hbd := h.bounds
    obtain ⟨k, hk⟩ : ∃ k : Nat, index - x.ix - 1 = (k : Int) := ⟨(index - x.ix - 1).toNat, by omega⟩
    have hkl : k < x.l.length := by omega
    have HX : Hid (x.from_ index most = (x.l.drop k).take most.toNat) := hide (by
      unfold Lg.from_
      rw [if_pos ⟨h1, h2⟩, hk, Int.toNat_natCast])
    have HOK := hide h.ok
    clear h hmf
    go_enter Try.func47, Try.ntmps47
    go_wp2_with fail
    refine HM.out.mono ?_
    rintro e9 w9 ⟨rfl, rfl⟩
    go_wp2_with fail
    refine HH.out.mono ?_
    rintro e9 w2 ⟨rfl, hb2⟩
    have HB2 := hide hb2
    have hW2 := HW.out.below hb2
    have HPL : Hid (∀ q, Calls Try.prog 30 #[.pointer (some ⟨g, 0, none⟩), .int .i64 index] (w2.drewN q) fun e w' => e = .returned (.int .i64 (k : Int)) ∧ w2.drewN q = w') := hide fun q => by
      rw [← hk]
      exact place_any (hW2.below (bel_drewN (Below.refl _ _) q)) index h1 h2
    obtain ⟨p, c, hE⟩ := hW2.ents
    obtain ⟨n1, hn1⟩ : ∃ n1, x.l.length = n1 := ⟨_, rfl⟩
    have d2 := hE.c2
    obtain ⟨e, he⟩ : ∃ e, x.l[k]? = some e := ⟨_, List.getElem?_eq_getElem hkl⟩
    obtain ⟨g2, o2, pd, nd, cd, rfl, hat, hby, hnd⟩ := hE.ens.at_ he
    have hens := hE.ens
    rw [hn1] at d2 hens hkl h9
    obtain ⟨hn0, hnc, hcm⟩ := hens.len
    clear hn0
    have hsuf := hens.suf hkl
    have HS := hide hsuf
    obtain ⟨oo, hoo⟩ : ∃ oo, o2 + k * 3 = oo := ⟨_, rfl⟩
    rw [hoo] at HS
    have j0 : (0 : Int) ≤ (k : Int) := by omega
    have j1 : (k : Int) ≤ (n1 : Int) := by omega
    have j2 : (n1 : Int) ≤ (c : Int) := by omega
    have jc : ¬ c = k := by omega
    have jm : (c : Int) ≤ 9223372036854775807 := by unfold maxLen at hcm; omega
    obtain ⟨r, hr⟩ : ∃ r, n1 - k = r := ⟨_, rfl⟩
    obtain ⟨rc, hrc⟩ : ∃ rc, c - k = rc := ⟨_, rfl⟩
    rw [hr, hrc] at HS
    obtain ⟨m, hm⟩ : ∃ m : Nat, min (max most 0) (r : Int) = (m : Int) := ⟨(min (max most 0) (r : Int)).toNat, by omega⟩
    have hmn : m ≤ r := by omega
    have HPRE := hide (HS.out.pre hmn)
    have HX2 : Hid ((x.l.drop k).take m = x.from_ index most) := hide (by
      rw [HX.out, ← take_min _ most.toNat]
      congr 1
      rw [List.length_drop, hn1]
      omega)
    rw [HX2.out] at HPRE
    have HDL : Hid (∀ y ∈ x.from_ index most, y.d.length ≤ 4096) := hide fun y hy => goOn_all HOK.out y (by
      rw [HX.out] at hy
      exact List.mem_of_mem_drop (List.mem_of_mem_take hy))
    have HLN : Hid ((x.from_ index most).length ≤ 100000) := hide (by
      rw [← HX2.out, List.length_take, List.length_drop, hn1]
      omega)
    have i0 : (0 : Int) ≤ (m : Int) := by omega
    have i1 : (m : Int) ≤ (r : Int) := by omega
    have i2 : (r : Int) ≤ (rc : Int) := by omega
    have i3 : (m : Int) ≤ (rc : Int) := by omega
    have i4 : (rc : Int) ≤ 9223372036854775807 := by omega
    have HOW := hide (fun V (hV : Below w2.heap.size w2 V) => own_any (HPRE.out.below hV) HLN.out HDL.out)
    clear hb2 hW2 hE hby hnd hat he h1 h2 hbd hens hsuf hnc hcm hk hn1 hkl hmn
    go_wp2_with fail
    go_quiet ((go_at_call 30; exact quiet_same (HPL.out _)))
    go_wp2_with fail
    refine (HOW.out _ (bel_drewN (Below.refl _ _) _)).mono ?_
    rintro e9 w6 ⟨v6, rfl, ho6, hb6⟩
    have hb6' : Below w2.heap.size w2 w6 := (bel_drewN (Below.refl w2.heap.size w2) _).trans hb6
    have HO6 := hide (ho6.mono HB2.out.size)
    have HB6 := hide (HB2.out.trans (hb6'.mono HB2.out.size))
    obtain ⟨p6, n6, c6, rfl⟩ := ho6.ens.sl
    clear ho6 hb6 hb6'
    go_wp2
    go_ret
    exact ⟨_, rfl, HO6.out, HB6.out⟩
  · have hh' : hasI x index = false := by simpa using hh
    rw [hh'] at HH
    have HX : Hid (x.from_ index most = []) := hide (by
      simp only [hasI, Bool.and_eq_true, decide_eq_true_eq] at hh
      unfold Lg.from_
      rw [if_neg hh])
    clear h hh hh' hmf
    go_enter Try.func47, Try.ntmps47
    go_wp2_with fail
    refine HM.out.mono ?_
    rintro e9 w9 ⟨rfl, rfl⟩
    go_wp2_with fail
    refine HH.out.mono ?_
    rintro e9 w2 ⟨rfl, hb2⟩
    have HB2 := hide hb2
    clear hb2
    go_wp2
    go_ret
    exact ⟨_, rfl, by rw [HX.out]; exact OwnEns.nil _ _, HB2.out⟩
end Go.Proofs.Ytmalhdiholblgaa
