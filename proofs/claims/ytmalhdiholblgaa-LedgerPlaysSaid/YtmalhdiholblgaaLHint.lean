/- From where on to ask: the program's Hint. -/
import Derived.Test.YtmalhdiholblgaaLRead
namespace Go.Proofs.Ytmalhdiholblgaa
set_option linter.unusedVariables false
set_option linter.unusedSimpArgs false
open Go.RowKit

/-- The first of the run of one term to which the k-th belongs. -/
def back (l : List En) : Nat → Nat
  | 0 => 0
  | k + 1 => if (l[k]?.map En.t) = (l[k + 1]?.map En.t) then back l k else k + 1
theorem back_le (l : List En) : ∀ k, back l k ≤ k
  | 0 => Nat.le_refl _
  | k + 1 => by
    unfold back
    split
    · have := back_le l k
      omega
    · exact Nat.le_refl _
def hintI (x : Lg) (index : Int) : Int :=
  if x.ix + x.l.length < index ∨ x.l.length = 0 then x.ix + x.l.length + 1 else x.ix + back x.l (max index (x.ix + 1) - x.ix - 1).toNat + 1

theorem Ents.cell {w : World} {g : Nat} {x : Lg} {p : Option Addr} {c : Nat} (h : Ents w g x p c) {k : Nat} {e : En} (he : x.l[k]? = some e) : ∃ g2 o2, p = some ⟨g2, o2, none⟩ ∧ w.cell? ⟨g2, o2 + k * 3, none⟩ = some (.int .i64 e.i) ∧ w.cell? ⟨g2, o2 + k * 3 + 1, none⟩ = some (.int .i64 e.t) := by
  obtain ⟨g2, o2, pd, nd, cd, hp, hat, _, _⟩ := h.ens.at_ he
  exact ⟨g2, o2, hp, hat.c0, hat.c1⟩

set_option maxRecDepth 100000 in
set_option maxHeartbeats 2000000 in
theorem hint_any {w : World} {g : Nat} {x : Lg} (h : LgIs w g x) (index : Int) (hif : fits index) : Calls Try.prog 25 #[.pointer (some ⟨g, 0, none⟩), .int .i64 index] w fun e w' => e = .returned (.int .i64 (hintI x index)) ∧ Below w.heap.size w w' := by
  have HM := hide (made_any h)
  have HE := hide (end_any h)
  have hend := Lg.end_1 h.ok
  have hbd := h.bounds
  have hfew := h.few
  have hent := h.on_get
  rw [hend] at HE
  obtain ⟨b, hb⟩ : ∃ b, x.end_.2 = b := ⟨_, rfl⟩
  rw [hb] at HE
  obtain ⟨n, hn⟩ : ∃ n, x.l.length = n := ⟨_, rfl⟩
  obtain ⟨a, ha⟩ : ∃ a, x.ix + (n : Int) = a := ⟨_, rfl⟩
  have hab : 0 ≤ a ∧ a ≤ 1099512627776 := by omega
  have HX : Hid (hintI x index = if a < index ∨ n = 0 then a + 1 else x.ix + back x.l (max index (x.ix + 1) - x.ix - 1).toNat + 1) := hide (by unfold hintI; rw [hn, ha])
  rw [hn, ha] at HE
  have hf0 := fun W => field0 a b W
  have HW := hide h
  have HN := hide hn
  have HGET := hide hent
  obtain ⟨ix, hix⟩ : ∃ ix, x.ix = ix := ⟨_, rfl⟩
  rw [hix] at ha HX hbd HGET
  have HIX := hide hix
  obtain ⟨a0, a1⟩ := hab
  obtain ⟨b0, b1, _, _⟩ := hbd
  clear h hend hb hn hent hif hix
  go_enter Try.func25, Try.ntmps25
  go_wp2_with fail
  refine HM.out.mono ?_
  rintro e w9 ⟨rfl, rfl⟩
  go_wp2_with fail
  refine HE.out.mono ?_
  rintro e w2 ⟨rfl, hb2⟩
  have HB2 := hide hb2
  have HW2 := hide (HW.out.below hb2)
  obtain ⟨p, c, hE⟩ := HW2.out.ents
  have HEN := hide hE
  have d0 := HW2.out.c0
  have d2 := hE.c2
  rw [HN.out] at d2
  rw [HIX.out] at d0
  clear hb2 hE hfew HE HM
  by_cases h1 : a < index
  · have e1 : decide (a < index) = true := by simpa using h1
    have HX2 : Hid (hintI x index = a + 1) := hide (by rw [HX.out, if_pos (.inl h1)])
    clear HX h1
    go_wp2
    go_ret
    exact ⟨ret_i HX2.out, HB2.out⟩
  · have e1 : decide (a < index) = false := by simpa using h1
    by_cases h2 : n = 0
    · subst h2
      have HX2 : Hid (hintI x index = a + 1) := hide (by rw [HX.out, if_pos (.inr rfl)])
      clear HX h1
      go_wp2
      go_ret
      exact ⟨ret_i HX2.out, HB2.out⟩
    · have e2 : ((n : Int) == 0) = false := by simp; omega
      obtain ⟨mx, hmx⟩ : ∃ mx, max index (ix + 1) = mx := ⟨_, rfl⟩
      obtain ⟨k0, hk0⟩ : ∃ k0 : Nat, mx - ix - 1 = (k0 : Int) := ⟨(mx - ix - 1).toNat, by omega⟩
      have hkn : k0 < n := by omega
      have HX2 : Hid (hintI x index = ix + back x.l k0 + 1) := hide (by rw [HX.out, if_neg (by omega), hmx, hk0, Int.toNat_natCast])
      have HPL := hide (place_any HW2.out mx (by rw [HIX.out]; omega) (by rw [HIX.out, HN.out]; omega))
      rw [HIX.out, hk0] at HPL
      have HKN := hide hkn
      obtain ⟨e0, he0⟩ : ∃ e, x.l[k0]? = some e := ⟨_, List.getElem?_eq_getElem (by rw [HN.out]; exact hkn)⟩
      have HE0 := hide he0
      obtain ⟨g2, o2, rfl, z0, z1⟩ := HEN.out.cell he0
      obtain ⟨tm, htm⟩ : ∃ tm, e0.t = tm := ⟨_, rfl⟩
      rw [htm] at z1
      have HTM := hide htm
      clear HX h1 h2 hk0 he0 z0 htm
      have j0 : (0 : Int) ≤ (k0 : Int) := by omega
      have j1 : (k0 : Int) < (n : Int) := by omega
      go_wp2_with fail
      refine HPL.out.mono ?_
      rintro e w9 ⟨rfl, rfl⟩
      go_wp2_with fail
      clear hmx HPL
      go_loopw [6] (fun t wr => ∃ j : Nat, j ≤ k0 ∧ t = .int .i64 j ∧ Hid (back x.l k0 = back x.l j ∧ (∃ e, x.l[j]? = some e ∧ e.t = tm) ∧ wr = w2)) (fun t _ => (intOf t).toNat)
      case atStart => exact ⟨k0, Nat.le_refl _, rfl, hide ⟨rfl, ⟨e0, HE0.out, HTM.out⟩, rfl⟩⟩
      case round =>
        obtain ⟨j, hj, rfl, HR⟩ := hrel
        have hw := HR.out.2.2
        subst wr
        have HBK := hide HR.out.1
        obtain ⟨e, he, het⟩ := HR.out.2.1
        have HEJ := hide he
        have hgi := (HGET.out j e he).1
        obtain ⟨g3, o3, hp3, z0, z1⟩ := HEN.out.cell he
        injection hp3 with hp3
        injection hp3 with hp3 hp4
        subst hp3 hp4
        rw [het] at z1
        obtain ⟨ei, hei⟩ : ∃ ei, e.i = ei := ⟨_, rfl⟩
        rw [hei] at z0 hgi
        have HGI := hide hgi
        have HET := hide het
        have HJN : Hid (j < n) := hide (by omega)
        clear HR he hgi het hei
        cases j with
        | zero =>
          have HX3 : Hid (hintI x index = ei) := hide (by rw [HX2.out, HBK.out, HGI.out]; rfl)
          have i1 : (0 : Int) < (n : Int) := by have := HJN.out; omega
          rw [Nat.zero_mul, Nat.add_zero] at z0 z1
          clear HX2 HBK
          go_wp2
          go_ret
          exact ⟨ret_i HX3.out, HB2.out⟩
        | succ i =>
          obtain ⟨e2, he2⟩ : ∃ e, x.l[i]? = some e := ⟨_, List.getElem?_eq_getElem (by rw [HN.out]; have := HJN.out; omega)⟩
          obtain ⟨g3, o3, hp3, y0, y1⟩ := HEN.out.cell he2
          injection hp3 with hp3
          injection hp3 with hp3 hp4
          subst hp3 hp4
          have es : IntKind.i64.wrap ((i : Int) + 1 - 1) = (i : Int) := by rw [IntKind.wrap_i64]; have := HJN.out; omega
          have i0 : (0 : Int) ≤ (i : Int) := by omega
          have i1 : (i : Int) < (n : Int) := by have := HJN.out; omega
          have i2 : (i : Int) + 1 < (n : Int) := by have := HJN.out; omega
          have i3 : (0 : Int) ≤ (i : Int) + 1 := by omega
          obtain ⟨t2, ht2⟩ : ∃ t2, e2.t = t2 := ⟨_, rfl⟩
          rw [ht2] at y1
          by_cases hq : t2 = tm
          · have HX3 : Hid (back x.l (i + 1) = back x.l i) := hide (by
              conv => lhs; unfold back
              rw [if_pos (by rw [he2, HEJ.out]; simp [ht2, hq, HET.out])])
            have HE2 := hide (And.intro he2 (ht2.trans hq))
            subst hq
            clear he2 ht2 z0 z1
            go_wp2
            go_roundw
            case rel => exact ⟨i, by omega, rfl, hide ⟨HBK.out.trans HX3.out, ⟨e2, HE2.out.1, HE2.out.2⟩, by first | rfl | trivial⟩⟩
            case measure => simp [intOf]
          · have e3 : (t2 == tm) = false := by simpa using hq
            have HX3 : Hid (hintI x index = ei) := hide (by
              have : back x.l (i + 1) = i + 1 := by
                conv => lhs; unfold back
                rw [if_neg (by rw [he2, HEJ.out]; simp [ht2, HET.out, hq])]
              rw [HX2.out, HBK.out, HGI.out, this])
            clear he2 ht2 hq HX2 HBK
            go_wp2
            go_ret
            exact ⟨ret_i HX3.out, HB2.out⟩
end Go.Proofs.Ytmalhdiholblgaa
