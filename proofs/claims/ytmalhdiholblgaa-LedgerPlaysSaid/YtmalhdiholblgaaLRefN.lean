/- The document's ledger: New, Last, Fresh, At. -/
import Derived.Test.YtmalhdiholblgaaLRef
namespace Go.Proofs.Ytmalhdiholblgaa
set_option linter.unusedVariables false
set_option linter.unusedSimpArgs false
open Go.RowKit

/-- The document's ledger at a block. -/
structure RgIs (w : World) (g : Nat) (x : Lg) : Prop where
  c0 : w.cell? ⟨g, 0, none⟩ = some (.int .i64 x.ix)
  c1 : w.cell? ⟨g, 1, none⟩ = some (.int .i64 x.tm)
  c2 : ∃ p c, w.cell? ⟨g, 2, none⟩ = some (.slice p x.l.length c) ∧ Ens w (.slice p x.l.length c) x.l
  ok : x.Ok
  few : x.l.length ≤ 100000
theorem RgIs.below {w w' : World} {g : Nat} {x : Lg} (h : RgIs w g x) (hb : Below w.heap.size w w') : RgIs w' g x := by
  obtain ⟨p, c, hc, he⟩ := h.c2
  exact ⟨(hb.cell (lt_of_cell h.c0)).trans h.c0, (hb.cell (lt_of_cell h.c1)).trans h.c1, ⟨p, c, (hb.cell (lt_of_cell hc)).trans hc, he.below hb⟩, h.ok, h.few⟩
def RNewE (q : Bool) (w : World) (ix tm : Int) (L : List En) (e : Ending) (w' : World) : Prop :=
  Below w.heap.size w w' ∧ (if q = true then ∃ g, e = .returned (.tuple #[.pointer (some ⟨g, 0, none⟩), .int .i64 0]) ∧ RgIs w' g ⟨ix, tm, L⟩ else e = .returned (.tuple #[.pointer none, .int .i64 110]))

set_option maxRecDepth 200000 in
set_option maxHeartbeats 4000000 in
theorem refNew_any {w : World} {ix tm : Int} {v : Value} {L : List En} (hv : Ens w v L) (hix : fits ix) (h9 : L.length ≤ 100000) : Calls Try.prog 23 #[.int .i64 ix, .int .i64 tm, v] w (RNewE (good ix tm && goOn ix tm L) w ix tm L) := by
  rw [good_goOn]
  obtain ⟨p, n, c, rfl⟩ := hv.sl
  have HG := hide (refGood_any (w := w) ix tm)
  have HR := hide (refRises_any hv hix h9 (tm := tm))
  have HV := hide hv
  have H9 := hide h9
  have HQQ : Hid (good ix tm = true → rises ix tm L = true → (Lg.mk ix tm L).Ok) := hide fun a b => ⟨a, by rw [goOn_rises (good_le a).2.1]; exact b⟩
  obtain ⟨q1, hq1⟩ : ∃ q, good ix tm = q := ⟨_, rfl⟩
  obtain ⟨q2, hq2⟩ : ∃ q, rises ix tm L = q := ⟨_, rfl⟩
  rw [hq1] at HG HQQ
  rw [hq2] at HR HQQ
  rw [hq1, hq2]
  clear hq1 hq2 hv h9 hix
  go_enter Try.func23, Try.ntmps23
  go_wp2_with fail
  refine HG.out.mono ?_
  rintro e w9 ⟨rfl, rfl⟩
  cases q1
  · go_wp2
    go_ret2
    exact ⟨Below.refl _ _, rfl⟩
  · go_wp2_with fail
    refine HR.out.mono ?_
    rintro e w2 ⟨rfl, hb2⟩
    have HB2 := hide hb2
    clear hb2
    cases q2
    · go_wp2
      go_ret2
      exact ⟨HB2.out, rfl⟩
    · have bE := (Below.refl w2.heap.size w2).alloc (Nat.le_refl _) (.cells #[] 48)
      have oE : OwnE w2.heap.size (w2.alloc (.cells #[] 48)) (.slice (some ⟨w2.heap.size, 0, none⟩) 0 0) [] := World.ownsRow_lit w2 #[] 0 (Nat.le_refl _) (by decide) rfl
      obtain ⟨E, hE, hD⟩ := HV.out.below HB2.out
      have HEE := hide (And.intro (hE.below bE) hD)
      have HOE := hide oE
      have HBE := hide bE
      have HEL : Hid (E.length ≤ 100000) := hide (by rw [hD.1]; exact H9.out)
      clear bE oE hE hD
      go_wp2_with (at_builtin; go_loud (refine wpList_pushesE (v := .slice (some ⟨w2.heap.size, 0, none⟩) 0 0) (u := .slice p n c) (l := []) (m := E) (B := w2.heap.size) rfl (.tmp 21) (.tmp 22) rfl rfl rfl rfl HOE.out HEE.out.1 HBE.out.size (by have := HEL.out; simp; omega) ?_); intro v4 w4 ho4 hb4 hg4; rw [List.nil_append] at ho4; obtain ⟨p4, n4, c4, rfl⟩ := ho4.ecs.sl; have HO4 := hide ho4; have HB4 := hide (HBE.out.trans hb4); have HD4 := hide (HEE.out.2.below (HBE.out.trans hb4)); clear ho4 hb4 hg4)
      have hn4 := HO4.out.ecs.len.1
      rw [HD4.out.1] at hn4
      subst hn4
      have bZ : Below w4.heap.size w4 (w4.alloc (.cells #[.int .i64 ix, .int .i64 tm, .slice p4 L.length c4] 69)) := (Below.refl _ _).alloc (Nat.le_refl _) _
      have hcs : ∀ i u, #[Value.int .i64 ix, .int .i64 tm, .slice p4 L.length c4][i]? = some u → (w4.alloc (.cells #[.int .i64 ix, .int .i64 tm, .slice p4 L.length c4] 69)).cell? ⟨w4.heap.size, i, none⟩ = some u := fun i u h => by
        rw [cell_of_row _ w4.heap.size _ _ _ (0, 0) (heap_alloc_new w4 _)]
        exact h
      have HL : Hid (RgIs (w4.alloc (.cells #[.int .i64 ix, .int .i64 tm, .slice p4 L.length c4] 69)) w4.heap.size ⟨ix, tm, L⟩) := hide ⟨hcs 0 _ rfl, hcs 1 _ rfl, ⟨p4, c4, hcs 2 _ rfl, E, HO4.out.ecs.below bZ, HD4.out.below bZ⟩, HQQ.out trivial trivial, H9.out⟩
      have HBZ : Hid (Below w.heap.size w (w4.alloc (.cells #[.int .i64 ix, .int .i64 tm, .slice p4 L.length c4] 69))) := hide ((HB2.out.trans (HB4.out.mono HB2.out.size)).alloc (by have := HB2.out.size; have := HB4.out.size; omega) _)
      clear bZ hcs
      go_wp2
      go_ret2
      exact ⟨HBZ.out, _, rfl, HL.out⟩

theorem ret_ii {p : Int × Int} {a : Int} {b : Int} (h : p = (a, b)) : Ending.returned (.tuple #[.int .i64 a, .int .i64 b]) = .returned (.tuple #[.int .i64 p.1, .int .i64 p.2]) := by rw [h]
theorem end_drop {x : Lg} {k : Nat} {e : En} (h : x.l[k]? = some e) (hl : x.l.length ≤ k + 1) : x.end_ = (e.i, e.t) := Lg.end_get h (by have := (List.getElem?_eq_some_iff.1 h).1; omega)
def endK (x : Lg) (k : Nat) : Int × Int := match k with | 0 => (x.ix, x.tm) | k + 1 => match x.l[k]? with | some e => (e.i, e.t) | none => (0, 0)
theorem endK_all (x : Lg) : endK x x.l.length = x.end_ := by
  cases h : x.l.length with
  | zero => rw [Lg.end_nil h]; rfl
  | succ k =>
    have he := List.getElem?_eq_getElem (l := x.l) (i := k) (by omega)
    rw [Lg.end_get he (by omega)]
    unfold endK
    simp only [he]
theorem endK_succ {x : Lg} {k : Nat} {e : En} (h : x.l[k]? = some e) : endK x (k + 1) = (e.i, e.t) := by
  unfold endK
  simp only [h]
set_option maxRecDepth 200000 in
set_option maxHeartbeats 4000000 in
theorem refLast_any {w : World} {g : Nat} {x : Lg} (h : RgIs w g x) : Calls Try.prog 41 #[.pointer (some ⟨g, 0, none⟩)] w fun e w' => e = .returned (.tuple #[.int .i64 x.end_.1, .int .i64 x.end_.2]) ∧ Below w.heap.size w w' := by
  have HW := hide h
  have d0 := h.c0
  have d1 := h.c1
  have h9 : (x.l.length : Int) ≤ 100000 := by have := h.few; omega
  obtain ⟨p, c, hc2, hens⟩ := h.c2
  have HC := hide hc2
  have HEN := hide hens
  have HB := hide (Below.refl w.heap.size w)
  clear h hens
  go_enter Try.func41, Try.ntmps41
  go_wp2_with fail
  go_quiet (fail)
  go_wp2_with fail
  go_loopw [4, 5, 7, 21] (fun a b _ i wr => ∃ (k : Nat) (u v : Int), k ≤ x.l.length ∧ i = .int .i64 k ∧ a = .int .i64 u ∧ b = .int .i64 v ∧ Hid (endK x k = (u, v) ∧ Below w.heap.size w wr)) (fun _ _ _ i _ => x.l.length - (intOf i).toNat)
  case atStart => exact ⟨0, x.ix, x.tm, by omega, rfl, rfl, rfl, hide ⟨rfl, bel_drewN HB.out _⟩⟩
  case round =>
    obtain ⟨k, u, v, hk, rfl, rfl, rfl, HR⟩ := hrel
    by_cases hlt : k < x.l.length
    · obtain ⟨e, he⟩ : ∃ e, x.l[k]? = some e := ⟨_, List.getElem?_eq_getElem hlt⟩
      obtain ⟨g2, o, pd, nd, cd, rfl, hat, hby, hnd⟩ := (HEN.out.below HR.out.2).at_ he
      obtain ⟨oo, hoo⟩ : ∃ oo, o + k * 3 = oo := ⟨_, rfl⟩
      rw [hoo] at hat
      have c0 := hat.c0
      have c1 := hat.c1
      have c2 := hat.c2
      dsimp only at c0 c1 c2
      have HK := hide (endK_succ he)
      have HBZ := hide (HR.out.2.alloc HR.out.2.size (.cells #[.int .i64 e.i, .int .i64 e.t, .slice pd nd cd] 48))
      clear he hat hby hnd
      go_wp2
      go_roundw
      case rel => exact ⟨k + 1, e.i, e.t, by omega, by go_num, rfl, rfl, hide ⟨HK.out, HBZ.out⟩⟩
      case measure => simp [intOf]; omega
    · obtain rfl : k = x.l.length := by omega
      have HX : Hid (x.end_ = (u, v)) := hide (by rw [← endK_all]; exact HR.out.1)
      clear hlt
      go_wp2
      go_ret2
      exact ⟨ret_ii HX.out, HR.out.2⟩

theorem at_hit {x : Lg} (ho : x.Ok) {k : Nat} {e : En} (he : x.l[k]? = some e) (hn : e.i ≠ x.ix) : x.at_ e.i = (e.t, true) := by
  have hb := good_le ho.good
  have hi := goOn_get ho.on hb.1 hb.2.1 k e he
  have hl := (List.getElem?_eq_some_iff.1 he).1
  unfold Lg.at_
  rw [if_neg hn, if_pos (by omega), show (e.i - x.ix - 1).toNat = k by omega, he]
theorem at_miss {x : Lg} (ho : x.Ok) {n : Int} (hn : n ≠ x.ix) (h : ∀ (k : Nat) e, x.l[k]? = some e → e.i ≠ n) : x.at_ n = (0, false) := by
  have hb := good_le ho.good
  unfold Lg.at_
  rw [if_neg hn]
  by_cases hc : x.ix < n ∧ n ≤ x.ix + x.l.length
  · rw [if_pos hc]
    have he := List.getElem?_eq_getElem (l := x.l) (i := (n - x.ix - 1).toNat) (by omega)
    have hi := goOn_get ho.on hb.1 hb.2.1 _ _ he
    exact absurd (by omega) (h _ _ he)
  · rw [if_neg hc]
set_option maxRecDepth 200000 in
set_option maxHeartbeats 4000000 in
theorem refAt_any {w : World} {g : Nat} {x : Lg} (h : RgIs w g x) (n : Int) : Calls Try.prog 35 #[.pointer (some ⟨g, 0, none⟩), .int .i64 n] w fun e w' => e = .returned (.tuple #[.int .i64 (x.at_ n).1, .bool (x.at_ n).2]) ∧ Below w.heap.size w w' := by
  have d0 := h.c0
  have d1 := h.c1
  have h9 : (x.l.length : Int) ≤ 100000 := by have := h.few; omega
  obtain ⟨p, c, hc2, hens⟩ := h.c2
  have HEN := hide hens
  have HOK := hide h.ok
  have HB := hide (Below.refl w.heap.size w)
  clear h hens
  by_cases h0 : n = x.ix
  · have e0 : (n == x.ix) = true := by simpa using h0
    have HX : Hid (x.at_ n = (x.tm, true)) := hide (by unfold Lg.at_; rw [if_pos h0])
    clear h0
    go_enter Try.func35, Try.ntmps35
    go_wp2
    go_ret2
    exact ⟨ret_tb HX.out, HB.out⟩
  · have e0 : (n == x.ix) = false := by simpa using h0
    have H0 := hide h0
    clear h0
    go_enter Try.func35, Try.ntmps35
    go_wp2_with fail
    go_loopw [7, 23] (fun _ i wr => ∃ k : Nat, k ≤ x.l.length ∧ i = .int .i64 k ∧ Hid ((∀ (j : Nat) e, j < k → x.l[j]? = some e → e.i ≠ n) ∧ Below w.heap.size w wr)) (fun _ i _ => x.l.length - (intOf i).toNat)
    case atStart => exact ⟨0, by omega, rfl, hide ⟨fun j e hj => by omega, HB.out⟩⟩
    case round =>
      obtain ⟨k, hk, rfl, HR⟩ := hrel
      by_cases hlt : k < x.l.length
      · obtain ⟨e, he⟩ : ∃ e, x.l[k]? = some e := ⟨_, List.getElem?_eq_getElem hlt⟩
        obtain ⟨g2, o, pd, nd, cd, rfl, hat, hby, hnd⟩ := (HEN.out.below HR.out.2).at_ he
        obtain ⟨oo, hoo⟩ : ∃ oo, o + k * 3 = oo := ⟨_, rfl⟩
        rw [hoo] at hat
        have c0 := hat.c0
        have c1 := hat.c1
        have c2 := hat.c2
        dsimp only at c0 c1 c2
        have HE := hide he
        have HBZ := hide (HR.out.2.alloc HR.out.2.size (.cells #[.int .i64 e.i, .int .i64 e.t, .slice pd nd cd] 48))
        clear he hat hby hnd
        by_cases hq : e.i = n
        · have e1 : (e.i == n) = true := by simpa using hq
          have HX : Hid (x.at_ n = (e.t, true)) := hide (by
            have := at_hit HOK.out HE.out (by rw [hq]; exact H0.out)
            rwa [hq] at this)
          clear hq
          go_wp2
          go_ret2
          exact ⟨ret_tb HX.out, HBZ.out⟩
        · have e1 : (e.i == n) = false := by simpa using hq
          have HX : Hid (∀ (j : Nat) e, j < k + 1 → x.l[j]? = some e → e.i ≠ n) := hide fun j e' hj h1 => by
            by_cases ej : j = k
            · subst ej
              have := HE.out.symm.trans h1
              injection this with this
              subst this
              exact hq
            · exact HR.out.1 j e' (by omega) h1
          clear hq
          go_wp2
          go_roundw
          case rel => exact ⟨k + 1, by omega, by go_num, hide ⟨HX.out, HBZ.out⟩⟩
          case measure => simp [intOf]; omega
      · have HX : Hid (x.at_ n = (0, false)) := hide (at_miss HOK.out H0.out fun j e hj => HR.out.1 j e (by have := (List.getElem?_eq_some_iff.1 hj).1; omega) hj)
        go_wp2
        go_ret2
        exact ⟨ret_tb HX.out, HR.out.2⟩
end Go.Proofs.Ytmalhdiholblgaa
