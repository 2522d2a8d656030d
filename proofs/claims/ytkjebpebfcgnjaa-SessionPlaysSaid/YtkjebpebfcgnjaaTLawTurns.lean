/- The law SessionTurns. -/
import Derived.Test.YtkjebpebfcgnjaaTLawOnce
import Derived.Test.YtkjebpebfcgnjaaTLawEnds
namespace Go.Proofs.Ytkjebpebfcgnjaa
set_option linter.unusedVariables false
set_option linter.unusedSimpArgs false
open Go.RowKit

/-- How a number reads: as itself. -/
def heldI : Value → Option (DataW Value × List MemPlace)
  | .int .i64 n => some (.held (.int .i64 n), [])
  | _ => none
theorem heldI_inv {v u : Value} {ps : List MemPlace} (h : heldI v = some (.held u, ps)) : v = u := by
  unfold heldI at h
  split at h
  · simp at h
    exact h.1
  · simp at h
theorem zeroInt (w : World) : (zeroValue 3).run Try.prog w = .ok (.int .i64 0) w := by kernel_rfl
/-- The map of block bl tells M. -/
def LmIs (w : World) (bl n : Nat) (M : Int → Int) : Prop := ∃ D, w.ownsMap Try.prog 3 heldI bl n D ∧ ∀ k, D.atKey (.int .i64 k) (.held (.int .i64 0)) = .held (.int .i64 (M k))
theorem LmIs.lt {w : World} {bl n : Nat} {M : Int → Int} (h : LmIs w bl n M) : bl < w.heap.size := by obtain ⟨D, hm, _⟩ := h; exact hm.lt
theorem LmIs.chg {w w' : World} {S : Nat → Prop} {bl n : Nat} {M : Int → Int} (h : LmIs w bl n M) (hc : Chg w w' S) (hn : ¬ S bl) : LmIs w' bl n M := by
  obtain ⟨D, hm, hr⟩ := h
  have hlt := hm.lt
  obtain ⟨es, clock, h1, rest⟩ := hm
  exact ⟨D, ⟨es, clock, (hc.block bl hlt hn).trans h1, rest⟩, hr⟩
theorem LmIs.more {w : World} {bl n m : Nat} {M : Int → Int} (h : LmIs w bl n M) (hm : n ≤ m) : LmIs w bl m M := by
  obtain ⟨D, ⟨es, clock, h1, h2, h3, h4⟩, hr⟩ := h
  exact ⟨D, ⟨es, clock, h1, h2, Nat.le_trans h3 hm, h4⟩, hr⟩
theorem LmIs.new (w : World) : LmIs (w.alloc (.map #[] 0)) w.heap.size 0 fun _ => 0 := ⟨_, World.ownsMap_made w _ _ _, fun k => rfl⟩
theorem LmIs.look {w : World} {bl n : Nat} {M : Int → Int} (h : LmIs w bl n M) {k : Int} (hk : (Lit.int .i64 k).wf = true) : (Instr.lookup 57 (.map (some bl)) (.int .i64 k) false).run Try.prog w = .ok (.int .i64 (M k)) w := by
  obtain ⟨D, hm, hr⟩ := h
  obtain ⟨v, ps, hrun, hv⟩ := hm.lookup intK Try.underlying57 (zeroInt w) (zd := .held (.int .i64 0)) (zp := []) rfl (keyI hk)
  rw [hr k] at hv
  obtain rfl := heldI_inv hv
  exact hrun
def updM (M : Int → Int) (k v : Int) : Int → Int := fun j => if j = k then v else M j
theorem LmIs.store {w : World} {bl n : Nat} {M : Int → Int} (h : LmIs w bl n M) {k : Int} (hk : (Lit.int .i64 k).wf = true) (v : Int) (hn : n < maxLen) :
    ∃ w', (Instr.mapUpdate 57 (.map (some bl)) (.int .i64 k) (.int .i64 v)).run Try.prog w = .ok () w' ∧ w.grownBy w' (some bl) ∧ LmIs w' bl (n + 1) (updM M k v) := by
  obtain ⟨D, hm, hr⟩ := h
  obtain ⟨w', hrun, hm', hg⟩ := hm.update intK Try.underlying57 hn (keyI hk) (d := .held (.int .i64 v)) (ps := []) (val := .int .i64 v) rfl
  refine ⟨w', hrun, hg, _, hm', fun j => ?_⟩
  unfold updM
  by_cases e : j = k
  · subst e
    rw [if_pos rfl, Maps.atKey_put_same hm.isMap (isKeyI _)]
  · rw [if_neg e, Maps.atKey_put_other (fun h => e (by injection h with _ h))]
    exact hr j

/-- A table and the map beside it. -/
structure Tu (w0 : World) (g b bl : Nat) (w : World) (L : List St) (n : Nat) (M : Int → Int) : Prop where
  t : TbOwn w0 g b w L
  m : LmIs w bl n M
  ng : bl ≠ g
  nb : bl ≠ b
  bl : w0.heap.size ≤ bl
theorem Tu.tab {w0 w w' : World} {g b bl n : Nat} {L L' : List St} {M : Int → Int} (h : Tu w0 g b bl w L n M) (h' : TbIs w' g b L') (hc : Chg w w' (fun k => k = b)) : Tu w0 g b bl w' L' n M :=
  ⟨h.t.tab h' hc, h.m.chg hc h.nb, h.ng, h.nb, h.bl⟩
theorem Tu.bel {w0 w w' : World} {g b bl n : Nat} {L : List St} {M : Int → Int} (h : Tu w0 g b bl w L n M) (hb : Below w.heap.size w w') : Tu w0 g b bl w' L n M :=
  ⟨h.t.bel hb, h.m.chg (Chg.of_below hb fun _ => False) fun e => e, h.ng, h.nb, h.bl⟩
theorem Tu.put {w0 w w' : World} {g b bl n n' : Nat} {L : List St} {M M' : Int → Int} (h : Tu w0 g b bl w L n M) (hg : w.grownBy w' (some bl)) (hm : LmIs w' bl n' M') : Tu w0 g b bl w' L n' M' :=
  have hc : Chg w w' (fun k => k = bl) := Chg.of_grown hg _ (fun k e => by injection e with e; exact .inl e.symm)
  ⟨⟨h.t.tb.chg hc (fun e => h.ng e.symm) (fun e => h.nb e.symm), h.t.gl, h.t.bl, Chg.to_below h.t.below hc (fun k e => by rw [e]; exact h.bl)⟩, hm, h.ng, h.nb, h.bl⟩
theorem Tu.more {w0 w : World} {g b bl n m : Nat} {L : List St} {M : Int → Int} (h : Tu w0 g b bl w L n M) (hm : n ≤ m) : Tu w0 g b bl w L m M := ⟨h.t, h.m.more hm, h.ng, h.nb, h.bl⟩
/-- The map tells of each session its number. -/
def Inv (L : List St) (M : Int → Int) : Prop := ∀ x ∈ L, M x.s = x.q
theorem Inv.ins {L : List St} {M : Int → Int} (h : Inv L M) (hr : RisesT L) (x : St) : Inv (insT L x) (updM M x.s x.q) := fun y hy => by
  have h1 := fndT_of (hr.ins x).ids hy
  rw [fndT_ins] at h1
  unfold updM
  by_cases e : x.s = y.s
  · rw [if_pos e] at h1
    injection h1 with h1
    subst h1
    rw [if_pos rfl]
  · rw [if_neg e] at h1
    rw [if_neg (fun e' => e e'.symm)]
    exact h y (fndT_mem h1).1
theorem Inv.exp {L : List St} {M : Int → Int} (h : Inv L M) (f : Int) : Inv (expT L f) M := fun y hy => h y (List.mem_filter.1 hy).1
theorem open_yes {L : List St} {a : Int} (h : (openT L a).1 = 0) : openT L a = (0, insT L ⟨a, 0, a, rp0⟩) := by
  unfold openT at h ⊢
  split at h
  · simp at h
  · rename_i h1
    rw [if_neg h1]
    split at h
    · simp at h
    · rename_i h2
      rw [if_neg h2]
theorem open_nope {L : List St} {a : Int} (h : ¬ (openT L a).1 = 0) : (openT L a).2 = L := by
  unfold openT at h ⊢
  split at h
  · rename_i h1
    rw [if_pos h1]
  · rename_i h1
    rw [if_neg h1]
    split at h
    · rename_i h2
      rw [if_pos h2]
    · simp at h
theorem keep_nope {L : List St} {s q a : Int} {r : Rp} (h : ¬ (keepT L s q a r).1 = 0) : (keepT L s q a r).2 = L := by
  unfold keepT at h ⊢
  split at h
  · rename_i h1
    rw [if_pos h1]
  · rename_i h1
    rw [if_neg h1]
    split at h
    · rename_i h2
      rw [if_pos h2]
    · rename_i h2
      rw [if_neg h2]
      split at h
      · simp at h
      · rename_i h3
        rw [if_neg h3]
theorem keep_yes {L : List St} (hL : TbOk L) {M : Int → Int} (hI : Inv L M) {s q a : Int} {r : Rp} (h : (keepT L s q a r).1 = 0) : keepT L s q a r = (0, insT L ⟨s, q, a, r⟩) ∧ q = M s + 1 ∧ 0 ≤ M s ∧ M s ≤ 1099511627776 := by
  unfold keepT at h ⊢
  split at h
  · rename_i h1
    exact absurd h h1
  · rename_i h1
    rw [if_neg h1]
    split at h
    · simp at h
    · rename_i h2
      rw [if_neg h2]
      split at h
      · rename_i h3
        rw [if_pos h3]
        obtain ⟨y, hy, hq, hm, hs, h0, h1, _⟩ := st_ok_of (L := L) (n := s) (m := q) (by omega) (by simpa using h2) hL
        have := hI y hm
        rw [hs] at this
        exact ⟨rfl, by omega, by omega, by omega⟩
      · simp at h
theorem run_makeLast (w : World) : (Instr.makeMap 57 none).run Try.prog w = .ok (.map (some w.heap.size)) (w.alloc (.map #[] 0)) := by
  kernel_rfl

set_option maxRecDepth 200000 in
set_option maxHeartbeats 8000000 in
theorem lawTurns_any {w : World} {p : Option Addr} {n c : Nat} {l : List Dt} (h : Dts w p n c l) : Calls Try.prog 7 #[.slice p n c] w (LawPost w) := by
  have hcm := h.cap_
  have hmm := h.max_
  have hn64 : (n : Int) ≤ 9223372036854775807 := by unfold maxLen at hmm; omega
  have HD := hide h
  clear hcm hmm h
  by_cases hn : 200 < n
  · have hA := awake_any w
    go_enter Try.func7, Try.ntmps7
    go_wp2_with fail
    refine hA.mono ?_
    rintro e w1 ⟨rfl, hb⟩
    go_wp2
    go_ret
    exact ⟨by rfl, hb⟩
  have hmk := run_makeLast
  go_enter Try.func7, Try.ntmps7
  go_wp2_with fail
  refine (new_any w).mono ?_
  rintro e w1 ⟨rfl, h1, hb1⟩
  have hmk1 := hmk w1
  clear hmk
  obtain ⟨g, hg⟩ : ∃ g, w.heap.size + 1 = g := ⟨_, rfl⟩
  obtain ⟨b, hb⟩ : ∃ b, w.heap.size = b := ⟨_, rfl⟩
  obtain ⟨bl, hbl⟩ : ∃ bl, w1.heap.size = bl := ⟨_, rfl⟩
  obtain ⟨w2, hw2⟩ : ∃ w2, w1.alloc (.map #[] 0) = w2 := ⟨_, rfl⟩
  rw [hw2, hbl] at hmk1
  have T2 : Hid (Tu w g b bl w2 [] 0 fun _ => 0) := hide (by
    have t1 : TbOwn w g b w1 [] := by rw [← hb, ← hg]; exact TbOwn.new h1 hb1
    rw [← hw2, ← hbl]
    exact ⟨t1.alloc _, LmIs.new w1, by have := t1.tb.gl; omega, by have := t1.tb.bl; omega, t1.below.size⟩)
  rw [hg]
  clear h1 hb1 hw2 hbl hg hb
  go_wp2
  clear hmk1
  go_loopw [18] (fun i wr => ∃ (k : Nat) (L : List St) (M : Int → Int), k ≤ n ∧ i = .int .i64 k ∧ Hid (Tu w g b bl wr L k M ∧ Inv L M)) (fun i _ => n - (intOf i).toNat)
  case atStart => exact ⟨0, [], _, by omega, rfl, hide ⟨T2.out, fun x hx => by cases hx⟩⟩
  case round =>
    obtain ⟨k, L, M, hk, rfl, HR⟩ := hrel
    by_cases hlt : k < n
    · have hll := HD.out.len_
      obtain ⟨y, hy⟩ : ∃ y, l[k]? = some y := ⟨_, List.getElem?_eq_getElem (by omega)⟩
      obtain ⟨gd, o, rfl, hgd, hc⟩ := HD.out.at_ (by omega)
      obtain ⟨d0, d1, d2, d3, d4, d5, d6, d7, d8, d9, d10, d11⟩ := ((hc k y hy).below HR.out.1.t.below).all
      have HW := hide (HD.out.wf_ y (List.mem_of_getElem? hy))
      obtain ⟨op, s, q, a, ⟨e1, e2, e3, e4, e5, e6, e7, e8⟩⟩ := y
      dsimp only at d0 d1 d2 d3 d4 d5 d6 d7 d8 d9 d10 d11
      obtain ⟨Y, hY⟩ : ∃ Y, wr.alloc (.cells #[.int .i64 op, .int .i64 s, .int .i64 q, .int .i64 a, .int .i64 e1, .int .i64 e2, .int .i64 e3, .int .i64 e4, .int .i64 e5, .int .i64 e6, .int .i64 e7, .int .i64 e8] 36) = Y := ⟨_, rfl⟩
      have TY : Hid (Tu w g b bl Y L k M) := hide (by rw [← hY]; exact HR.out.1.bel ((Below.refl _ _).alloc (Nat.le_refl _) _))
      have HI := hide HR.out.2
      have hbr : b < wr.heap.size := HR.out.1.t.tb.bl
      have hblr : bl < wr.heap.size := HR.out.1.m.lt
      have HDY : Hid (DtAt Y wr.heap.size 0 (⟨op, s, q, a, ⟨e1, e2, e3, e4, e5, e6, e7, e8⟩⟩ : Dt)) := hide (by rw [← hY]; exact DtAt.box wr _)
      have XF : Hid (∀ V, DtAt V wr.heap.size 0 (⟨op, s, q, a, ⟨e1, e2, e3, e4, e5, e6, e7, e8⟩⟩ : Dt) → V.cell? ⟨wr.heap.size, 0, none⟩ = some (.int .i64 op) ∧ V.cell? ⟨wr.heap.size, 1, none⟩ = some (.int .i64 s) ∧ V.cell? ⟨wr.heap.size, 2, none⟩ = some (.int .i64 q) ∧ V.cell? ⟨wr.heap.size, 3, none⟩ = some (.int .i64 a) ∧ V.cell? ⟨wr.heap.size, 4, none⟩ = some (.int .i64 e1) ∧ V.cell? ⟨wr.heap.size, 5, none⟩ = some (.int .i64 e2) ∧ V.cell? ⟨wr.heap.size, 6, none⟩ = some (.int .i64 e3) ∧ V.cell? ⟨wr.heap.size, 7, none⟩ = some (.int .i64 e4) ∧ V.cell? ⟨wr.heap.size, 8, none⟩ = some (.int .i64 e5) ∧ V.cell? ⟨wr.heap.size, 9, none⟩ = some (.int .i64 e6) ∧ V.cell? ⟨wr.heap.size, 10, none⟩ = some (.int .i64 e7) ∧ V.cell? ⟨wr.heap.size, 11, none⟩ = some (.int .i64 e8)) := hide fun V hV => by
        have := hV.all
        simpa only [Nat.zero_add] using this
      obtain ⟨y0, y1, y2, y3, y4, y5, y6, y7, y8, y9, y10, y11⟩ := XF.out _ HDY.out
      have hw := HW.out
      have hwa := hw.wa
      have hwq := i64_bounds hw.wq
      have hws := hw.ws
      dsimp only at hwa hwq hws
      have HWA := hide hwa
      have HWS := hide hws
      have HN2 := hide hn
      clear hc hy hwa hws hll hw hgd
      by_cases h0 : (wrap64 ((IntKind.u64.wrap op).tmod 6) == 0) = true
      · have ho := hide (open_any TY.out.t.tb HWA.out)
        by_cases hok : (openT L a).1 = 0
        · have hoy := open_yes hok
          rw [hoy] at ho
          clear hok hoy
          go_wp2_with fail
          refine ho.out.mono ?_
          rintro e w3 ⟨rfl, h3, hc3⟩
          have T3 := hide (TY.out.tab h3 hc3)
          have HD3 := hide (HDY.out.chg hc3 (fun e => by omega))
          clear h3 hc3 ho y0 y1 y2 y3 y4 y5 y6 y7 y8 y9 y10 y11
          obtain ⟨y0, y1, y2, y3, y4, y5, y6, y7, y8, y9, y10, y11⟩ := XF.out _ HD3.out
          obtain ⟨w4, hrun, hg4, hm4⟩ := T3.out.m.store (k := a) HWA.out 0 (by simp [maxLen]; omega)
          have T4 := hide (T3.out.put hg4 hm4)
          have I4 : Hid (Inv (insT L ⟨a, 0, a, rp0⟩) (updM M a 0)) := hide (HI.out.ins TY.out.t.tb.ok.rises ⟨a, 0, a, rp0⟩)
          clear hg4 hm4
          obtain ⟨L4, hL4⟩ : ∃ L4, insT L ⟨a, 0, a, rp0⟩ = L4 := ⟨_, rfl⟩
          obtain ⟨M4, hM4⟩ : ∃ M4, updM M a 0 = M4 := ⟨_, rfl⟩
          rw [hL4, hM4] at T4 I4
          clear hL4 hM4 T3
          go_wp2_with fail
          refine (seats_any T4.out.t.tb).mono ?_
          rintro e w7 ⟨v7, rfl, ho7, hb7⟩
          obtain ⟨p7, n7, c7, rfl⟩ := ho7.sts.sl
          have HN7 := hide ho7.sts.len.1
          have hn7 : n7 ≤ 8 := by have := ho7.sts.len.1; have := T4.out.t.tb.ok.len; omega
          have T7 := hide (T4.out.bel hb7)
          have HO7 := hide ho7
          clear ho7 hb7
          go_wp2
          obtain ⟨wo, hwo⟩ : ∃ wo : World, wo = wr := ⟨_, rfl⟩
          have HWO := hide hwo
          clear hwo
          go_loopw [71] (fun i wq => ∃ j : Nat, j ≤ n7 ∧ i = .int .i64 j ∧ Hid (Below w7.heap.size w7 wq)) (fun i _ => n7 - (intOf i).toNat)
          case atStart => exact ⟨0, by omega, rfl, hide (Below.refl _ _)⟩
          case round =>
            obtain ⟨j, hj, rfl, HB⟩ := hrel
            by_cases hjl : j < n7
            · obtain ⟨y, hy⟩ : ∃ y, L4[j]? = some y := ⟨_, List.getElem?_eq_getElem (by have := HN7.out; omega)⟩
              obtain ⟨gs, os, rfl, hcs⟩ := HO7.out.sts.at_ (by omega)
              obtain ⟨g0_, g1_, g2, g3, g4, g5, g6, g7, g8, g9, g10⟩ := ((hcs j y hy).below HB.out).all
              have TQ := hide (T7.out.bel HB.out)
              have hym : y ∈ L4 := List.mem_of_getElem? hy
              have hyi := I4.out y hym
              have hys := (St.ok_iff.1 (TQ.out.t.tb.ok.ok y hym)).1
              obtain ⟨ys, yq, ya, ⟨f1, f2, f3, f4, f5, f6, f7, f8⟩⟩ := y
              dsimp only at g0_ g1_ g2 g3 g4 g5 g6 g7 g8 g9 g10 hyi hys
              obtain ⟨Q, hQ⟩ : ∃ Q, wr.alloc (.cells #[.int .i64 ys, .int .i64 yq, .int .i64 ya, .int .i64 f1, .int .i64 f2, .int .i64 f3, .int .i64 f4, .int .i64 f5, .int .i64 f6, .int .i64 f7, .int .i64 f8] 60) = Q := ⟨_, rfl⟩
              obtain ⟨q0_, q1, q2, q3, q4, q5, q6, q7, q8, q9, q10⟩ := (StAt.box wr (⟨ys, yq, ya, ⟨f1, f2, f3, f4, f5, f6, f7, f8⟩⟩ : St)).all
              dsimp only at q0_ q1 q2 q3 q4 q5 q6 q7 q8 q9 q10
              rw [hQ] at q0_ q1 q2 q3 q4 q5 q6 q7 q8 q9 q10
              simp only [Nat.zero_add] at q0_ q1 q2 q3 q4 q5 q6 q7 q8 q9 q10
              have hbQ : Below wr.heap.size wr Q := by rw [← hQ]; exact (Below.refl _ _).alloc (Nat.le_refl _) _
              have hlk := (TQ.out.bel hbQ).m.look (k := ys) (wf40 (by omega) (by omega))
              rw [hyi] at hlk
              have HQ := hide (HB.out.trans (hbQ.mono HB.out.size))
              clear hyi hbQ hcs hy hym
              go_wp2
              go_roundw
              case rel => exact ⟨j + 1, by omega, by go_num, HQ⟩
              case measure => simp [intOf]; omega
            · have TQ := hide (T7.out.bel HB.out)
              go_wp2
              go_roundw
              case rel => exact ⟨k + 1, L4, M4, by omega, by go_num, hide ⟨TQ.out, I4.out⟩⟩
              case measure => simp [intOf]; omega
        · have hon := open_nope hok
          rw [hon] at ho
          obtain ⟨e0, he0⟩ : ∃ e0, (openT L a).1 = e0 := ⟨_, rfl⟩
          rw [he0] at ho hok
          clear he0 hon
          go_wp2_with fail
          refine ho.out.mono ?_
          rintro e w3 ⟨rfl, h3, hc3⟩
          have T3 := hide (TY.out.tab h3 hc3)
          clear h3 hc3 ho
          go_wp2_with fail
          refine (seats_any T3.out.t.tb).mono ?_
          rintro e w7 ⟨v7, rfl, ho7, hb7⟩
          obtain ⟨p7, n7, c7, rfl⟩ := ho7.sts.sl
          have HN7 := hide ho7.sts.len.1
          have hn7 : n7 ≤ 8 := by have := ho7.sts.len.1; have := T3.out.t.tb.ok.len; omega
          have T7 := hide (T3.out.bel hb7)
          have HO7 := hide ho7
          clear ho7 hb7
          go_wp2
          obtain ⟨wo, hwo⟩ : ∃ wo : World, wo = wr := ⟨_, rfl⟩
          have HWO := hide hwo
          clear hwo
          go_loopw [71] (fun i wq => ∃ j : Nat, j ≤ n7 ∧ i = .int .i64 j ∧ Hid (Below w7.heap.size w7 wq)) (fun i _ => n7 - (intOf i).toNat)
          case atStart => exact ⟨0, by omega, rfl, hide (Below.refl _ _)⟩
          case round =>
            obtain ⟨j, hj, rfl, HB⟩ := hrel
            by_cases hjl : j < n7
            · obtain ⟨y, hy⟩ : ∃ y, L[j]? = some y := ⟨_, List.getElem?_eq_getElem (by have := HN7.out; omega)⟩
              obtain ⟨gs, os, rfl, hcs⟩ := HO7.out.sts.at_ (by omega)
              obtain ⟨g0_, g1_, g2, g3, g4, g5, g6, g7, g8, g9, g10⟩ := ((hcs j y hy).below HB.out).all
              have TQ := hide (T7.out.bel HB.out)
              have hym : y ∈ L := List.mem_of_getElem? hy
              have hyi := HI.out y hym
              have hys := (St.ok_iff.1 (TQ.out.t.tb.ok.ok y hym)).1
              obtain ⟨ys, yq, ya, ⟨f1, f2, f3, f4, f5, f6, f7, f8⟩⟩ := y
              dsimp only at g0_ g1_ g2 g3 g4 g5 g6 g7 g8 g9 g10 hyi hys
              obtain ⟨Q, hQ⟩ : ∃ Q, wr.alloc (.cells #[.int .i64 ys, .int .i64 yq, .int .i64 ya, .int .i64 f1, .int .i64 f2, .int .i64 f3, .int .i64 f4, .int .i64 f5, .int .i64 f6, .int .i64 f7, .int .i64 f8] 60) = Q := ⟨_, rfl⟩
              obtain ⟨q0_, q1, q2, q3, q4, q5, q6, q7, q8, q9, q10⟩ := (StAt.box wr (⟨ys, yq, ya, ⟨f1, f2, f3, f4, f5, f6, f7, f8⟩⟩ : St)).all
              dsimp only at q0_ q1 q2 q3 q4 q5 q6 q7 q8 q9 q10
              rw [hQ] at q0_ q1 q2 q3 q4 q5 q6 q7 q8 q9 q10
              simp only [Nat.zero_add] at q0_ q1 q2 q3 q4 q5 q6 q7 q8 q9 q10
              have hbQ : Below wr.heap.size wr Q := by rw [← hQ]; exact (Below.refl _ _).alloc (Nat.le_refl _) _
              have hlk := (TQ.out.bel hbQ).m.look (k := ys) (wf40 (by omega) (by omega))
              rw [hyi] at hlk
              have HQ := hide (HB.out.trans (hbQ.mono HB.out.size))
              clear hyi hbQ hcs hy hym
              go_wp2
              go_roundw
              case rel => exact ⟨j + 1, by omega, by go_num, HQ⟩
              case measure => simp [intOf]; omega
            · have TQ := hide (T7.out.bel HB.out)
              go_wp2
              go_roundw
              case rel => exact ⟨k + 1, L, M, by omega, by go_num, hide ⟨TQ.out.more (Nat.le_succ _), HI.out⟩⟩
              case measure => simp [intOf]; omega
      · replace h0 : (wrap64 ((IntKind.u64.wrap op).tmod 6) == 0) = false := by simpa using h0
        by_cases h4 : (wrap64 ((IntKind.u64.wrap op).tmod 6) == 4) = true
        · go_wp2_with fail
          refine (expire_any TY.out.t.tb a).mono ?_
          rintro e w3 ⟨rfl, h3, hc3⟩
          have T3 := hide (TY.out.tab h3 hc3)
          have I3 := hide (HI.out.exp a)
          clear h3 hc3
          obtain ⟨L3, hL3⟩ : ∃ L3, expT L a = L3 := ⟨_, rfl⟩
          rw [hL3] at T3 I3
          obtain ⟨e3, he3⟩ : ∃ e3 : Int, (L.length : Int) - (expT L a).length = e3 := ⟨_, rfl⟩
          rw [he3]
          clear hL3 he3
          go_wp2_with fail
          refine (seats_any T3.out.t.tb).mono ?_
          rintro e w7 ⟨v7, rfl, ho7, hb7⟩
          obtain ⟨p7, n7, c7, rfl⟩ := ho7.sts.sl
          have HN7 := hide ho7.sts.len.1
          have hn7 : n7 ≤ 8 := by have := ho7.sts.len.1; have := T3.out.t.tb.ok.len; omega
          have T7 := hide (T3.out.bel hb7)
          have HO7 := hide ho7
          clear ho7 hb7
          go_wp2
          obtain ⟨wo, hwo⟩ : ∃ wo : World, wo = wr := ⟨_, rfl⟩
          have HWO := hide hwo
          clear hwo
          go_loopw [71] (fun i wq => ∃ j : Nat, j ≤ n7 ∧ i = .int .i64 j ∧ Hid (Below w7.heap.size w7 wq)) (fun i _ => n7 - (intOf i).toNat)
          case atStart => exact ⟨0, by omega, rfl, hide (Below.refl _ _)⟩
          case round =>
            obtain ⟨j, hj, rfl, HB⟩ := hrel
            by_cases hjl : j < n7
            · obtain ⟨y, hy⟩ : ∃ y, L3[j]? = some y := ⟨_, List.getElem?_eq_getElem (by have := HN7.out; omega)⟩
              obtain ⟨gs, os, rfl, hcs⟩ := HO7.out.sts.at_ (by omega)
              obtain ⟨g0_, g1_, g2, g3, g4, g5, g6, g7, g8, g9, g10⟩ := ((hcs j y hy).below HB.out).all
              have TQ := hide (T7.out.bel HB.out)
              have hym : y ∈ L3 := List.mem_of_getElem? hy
              have hyi := I3.out y hym
              have hys := (St.ok_iff.1 (TQ.out.t.tb.ok.ok y hym)).1
              obtain ⟨ys, yq, ya, ⟨f1, f2, f3, f4, f5, f6, f7, f8⟩⟩ := y
              dsimp only at g0_ g1_ g2 g3 g4 g5 g6 g7 g8 g9 g10 hyi hys
              obtain ⟨Q, hQ⟩ : ∃ Q, wr.alloc (.cells #[.int .i64 ys, .int .i64 yq, .int .i64 ya, .int .i64 f1, .int .i64 f2, .int .i64 f3, .int .i64 f4, .int .i64 f5, .int .i64 f6, .int .i64 f7, .int .i64 f8] 60) = Q := ⟨_, rfl⟩
              obtain ⟨q0_, q1, q2, q3, q4, q5, q6, q7, q8, q9, q10⟩ := (StAt.box wr (⟨ys, yq, ya, ⟨f1, f2, f3, f4, f5, f6, f7, f8⟩⟩ : St)).all
              dsimp only at q0_ q1 q2 q3 q4 q5 q6 q7 q8 q9 q10
              rw [hQ] at q0_ q1 q2 q3 q4 q5 q6 q7 q8 q9 q10
              simp only [Nat.zero_add] at q0_ q1 q2 q3 q4 q5 q6 q7 q8 q9 q10
              have hbQ : Below wr.heap.size wr Q := by rw [← hQ]; exact (Below.refl _ _).alloc (Nat.le_refl _) _
              have hlk := (TQ.out.bel hbQ).m.look (k := ys) (wf40 (by omega) (by omega))
              rw [hyi] at hlk
              have HQ := hide (HB.out.trans (hbQ.mono HB.out.size))
              clear hyi hbQ hcs hy hym
              go_wp2
              go_roundw
              case rel => exact ⟨j + 1, by omega, by go_num, HQ⟩
              case measure => simp [intOf]; omega
            · have TQ := hide (T7.out.bel HB.out)
              go_wp2
              go_roundw
              case rel => exact ⟨k + 1, L3, M, by omega, by go_num, hide ⟨TQ.out.more (Nat.le_succ _), I3.out⟩⟩
              case measure => simp [intOf]; omega
        · replace h4 : (wrap64 ((IntKind.u64.wrap op).tmod 6) == 4) = false := by simpa using h4
          have hkp := hide (keep_any (a := a) (r := ⟨e1, e2, e3, e4, e5, e6, e7, e8⟩) TY.out.t.tb HWS.out hwq.1 hwq.2)
          by_cases hok : (keepT L s q a ⟨e1, e2, e3, e4, e5, e6, e7, e8⟩).1 = 0
          · obtain ⟨hky, hqm, hm0, hm1⟩ := keep_yes TY.out.t.tb.ok HI.out hok
            rw [hky] at hkp
            unfold rpV at hkp
            dsimp only at hkp
            obtain ⟨Ms, hMs⟩ : ∃ Ms, M s = Ms := ⟨_, rfl⟩
            rw [hMs] at hqm hm0 hm1
            have HMS := hide hMs
            clear hok hky hMs
            subst hqm
            go_wp2_with fail
            refine hkp.out.mono ?_
            rintro e w3 ⟨rfl, h3, hc3⟩
            have T3 := hide (TY.out.tab h3 hc3)
            have HD3 := hide (HDY.out.chg hc3 (fun e => by omega))
            clear h3 hc3 hkp y0 y1 y2 y3 y4 y5 y6 y7 y8 y9 y10 y11
            obtain ⟨y0, y1, y2, y3, y4, y5, y6, y7, y8, y9, y10, y11⟩ := XF.out _ HD3.out
            have hlk := T3.out.m.look HWS.out
            rw [HMS.out] at hlk
            obtain ⟨w4, hrun, hg4, hm4⟩ := T3.out.m.store (k := s) HWS.out (Ms + 1) (by simp [maxLen]; omega)
            have T4 := hide (T3.out.put hg4 hm4)
            have I4 : Hid (Inv (insT L ⟨s, Ms + 1, a, ⟨e1, e2, e3, e4, e5, e6, e7, e8⟩⟩) (updM M s (Ms + 1))) := hide (HI.out.ins TY.out.t.tb.ok.rises ⟨s, Ms + 1, a, ⟨e1, e2, e3, e4, e5, e6, e7, e8⟩⟩)
            clear hg4 hm4
            obtain ⟨L4, hL4⟩ : ∃ L4, insT L ⟨s, Ms + 1, a, ⟨e1, e2, e3, e4, e5, e6, e7, e8⟩⟩ = L4 := ⟨_, rfl⟩
            obtain ⟨M4, hM4⟩ : ∃ M4, updM M s (Ms + 1) = M4 := ⟨_, rfl⟩
            rw [hL4, hM4] at T4 I4
            clear hL4 hM4 T3
            go_wp2_with fail
            refine (seats_any T4.out.t.tb).mono ?_
            rintro e w7 ⟨v7, rfl, ho7, hb7⟩
            obtain ⟨p7, n7, c7, rfl⟩ := ho7.sts.sl
            have HN7 := hide ho7.sts.len.1
            have hn7 : n7 ≤ 8 := by have := ho7.sts.len.1; have := T4.out.t.tb.ok.len; omega
            have T7 := hide (T4.out.bel hb7)
            have HO7 := hide ho7
            clear ho7 hb7
            go_wp2
            obtain ⟨wo, hwo⟩ : ∃ wo : World, wo = wr := ⟨_, rfl⟩
            have HWO := hide hwo
            clear hwo
            go_loopw [71] (fun i wq => ∃ j : Nat, j ≤ n7 ∧ i = .int .i64 j ∧ Hid (Below w7.heap.size w7 wq)) (fun i _ => n7 - (intOf i).toNat)
            case atStart => exact ⟨0, by omega, rfl, hide (Below.refl _ _)⟩
            case round =>
              obtain ⟨j, hj, rfl, HB⟩ := hrel
              by_cases hjl : j < n7
              · obtain ⟨y, hy⟩ : ∃ y, L4[j]? = some y := ⟨_, List.getElem?_eq_getElem (by have := HN7.out; omega)⟩
                obtain ⟨gs, os, rfl, hcs⟩ := HO7.out.sts.at_ (by omega)
                obtain ⟨g0_, g1_, g2, g3, g4, g5, g6, g7, g8, g9, g10⟩ := ((hcs j y hy).below HB.out).all
                have TQ := hide (T7.out.bel HB.out)
                have hym : y ∈ L4 := List.mem_of_getElem? hy
                have hyi := I4.out y hym
                have hys := (St.ok_iff.1 (TQ.out.t.tb.ok.ok y hym)).1
                obtain ⟨ys, yq, ya, ⟨f1, f2, f3, f4, f5, f6, f7, f8⟩⟩ := y
                dsimp only at g0_ g1_ g2 g3 g4 g5 g6 g7 g8 g9 g10 hyi hys
                obtain ⟨Q, hQ⟩ : ∃ Q, wr.alloc (.cells #[.int .i64 ys, .int .i64 yq, .int .i64 ya, .int .i64 f1, .int .i64 f2, .int .i64 f3, .int .i64 f4, .int .i64 f5, .int .i64 f6, .int .i64 f7, .int .i64 f8] 60) = Q := ⟨_, rfl⟩
                obtain ⟨q0_, q1, q2, q3, q4, q5, q6, q7, q8, q9, q10⟩ := (StAt.box wr (⟨ys, yq, ya, ⟨f1, f2, f3, f4, f5, f6, f7, f8⟩⟩ : St)).all
                dsimp only at q0_ q1 q2 q3 q4 q5 q6 q7 q8 q9 q10
                rw [hQ] at q0_ q1 q2 q3 q4 q5 q6 q7 q8 q9 q10
                simp only [Nat.zero_add] at q0_ q1 q2 q3 q4 q5 q6 q7 q8 q9 q10
                have hbQ : Below wr.heap.size wr Q := by rw [← hQ]; exact (Below.refl _ _).alloc (Nat.le_refl _) _
                have hlk := (TQ.out.bel hbQ).m.look (k := ys) (wf40 (by omega) (by omega))
                rw [hyi] at hlk
                have HQ := hide (HB.out.trans (hbQ.mono HB.out.size))
                clear hyi hbQ hcs hy hym
                go_wp2
                go_roundw
                case rel => exact ⟨j + 1, by omega, by go_num, HQ⟩
                case measure => simp [intOf]; omega
              · have TQ := hide (T7.out.bel HB.out)
                go_wp2
                go_roundw
                case rel => exact ⟨k + 1, L4, M4, by omega, by go_num, hide ⟨TQ.out, I4.out⟩⟩
                case measure => simp [intOf]; omega
          · have hkn := keep_nope hok
            rw [hkn] at hkp
            unfold rpV at hkp
            dsimp only at hkp
            obtain ⟨e0, he0⟩ : ∃ e0, (keepT L s q a ⟨e1, e2, e3, e4, e5, e6, e7, e8⟩).1 = e0 := ⟨_, rfl⟩
            rw [he0] at hkp hok
            clear he0 hkn
            go_wp2_with fail
            refine hkp.out.mono ?_
            rintro e w3 ⟨rfl, h3, hc3⟩
            have T3 := hide (TY.out.tab h3 hc3)
            clear h3 hc3 hkp
            go_wp2
            go_roundw
            case rel => exact ⟨k + 1, L, M, by omega, by go_num, hide ⟨T3.out.more (Nat.le_succ _), HI.out⟩⟩
            case measure => simp [intOf]; omega
    · go_wp2_with fail
      refine (seats_any HR.out.1.t.tb).mono ?_
      rintro e w7 ⟨v7, rfl, ho7, hb7⟩
      obtain ⟨p7, n7, c7, rfl⟩ := ho7.sts.sl
      have hn7 : n7 ≤ 8 := by have := ho7.sts.len.1; have := HR.out.1.t.tb.ok.len; omega
      have T7 := hide (HR.out.1.bel hb7)
      clear ho7 hb7
      have HA := hide (awake_any w7)
      go_wp2_with fail
      refine HA.out.mono ?_
      rintro e w8 ⟨rfl, hb8⟩
      have T8 := hide (T7.out.bel hb8)
      clear hb8
      go_wp2
      go_ret
      exact ⟨by rfl, T8.out.t.below⟩
end Go.Proofs.Ytkjebpebfcgnjaa
