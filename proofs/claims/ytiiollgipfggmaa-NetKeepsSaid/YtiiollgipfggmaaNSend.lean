/- Send into a bag; a message doubled. -/
import Derived.Test.YtiiollgipfggmaaNTake
namespace Go.Proofs.Ytiiollgipfggmaa
set_option linter.unusedVariables false
set_option linter.unusedSimpArgs false
open Go.RowKit

def msC (m : Ms) (ve vv vd : Value) : List Value := [.int .i64 m.k, .int .i64 m.f, .int .i64 m.t, .int .i64 m.tm, .int .i64 m.ix, .int .i64 m.lt, .int .i64 m.cm, .int .i64 m.rd, .bool m.ys, .bool m.dn, ve, vv, vd]
/-- The slice u reads as the messages L. -/
def Mss (w : World) (u : Value) (L : List Ms) : Prop := ∃ (p : Option Addr) (c : Nat), u = .slice p L.length c ∧ L.length ≤ c ∧ c ≤ maxLen ∧ ∀ (k : Nat) m, L[k]? = some m → ∃ g o ve vv vd, p = some ⟨g, o, none⟩ ∧ MsV w m ve vv vd ∧ ∀ (j : Nat) x, (msC m ve vv vd)[j]? = some x → w.cell? ⟨g, o + k * 13 + j, none⟩ = some x
def send1 (x : Bg) (m : Ms) : Bg := if okM m && !fullB x then ⟨x.last + 1, x.ps ++ [(x.last + 1, m)]⟩ else x
def sendB (x : Bg) (L : List Ms) : Bg := L.foldl send1 x
theorem sendB_snoc (x : Bg) (L : List Ms) (m : Ms) : sendB x (L ++ [m]) = send1 (sendB x L) m := by simp [sendB]
theorem sendB_last (x : Bg) : ∀ (L : List Ms), x.last ≤ (sendB x L).last ∧ (sendB x L).last ≤ x.last + L.length := by
  intro L
  induction L generalizing x with
  | nil => simp [sendB]
  | cons m r ih =>
    have h := ih (send1 x m)
    have h1 : x.last ≤ (send1 x m).last ∧ (send1 x m).last ≤ x.last + 1 := by
      unfold send1
      split
      · dsimp only; omega
      · omega
    have h2 : sendB x (m :: r) = sendB (send1 x m) r := rfl
    rw [h2, List.length_cons]
    omega

set_option maxRecDepth 200000 in
set_option maxHeartbeats 4000000 in
theorem send_bag {B : Nat} {w : World} {g : Nat} {v u : Value} {x : Bg} {L : List Ms} (h : BgIs B w g v x) (hM : ∀ W, Chg w W (BgS g v) → Mss W u L) (hL : x.last + L.length ≤ 1000000) (hB : B ≤ w.heap.size) :
    Calls Try.prog 30 #[.pointer (some ⟨g, 0, none⟩), u] w fun e w' => e = .returned (.int .i64 ((sendB x L).last - x.last)) ∧ ∃ v', BgIs B w' g v' (sendB x L) ∧ Chg w w' (BgS g v) ∧ ∀ k, BgS g v' k → BgS g v k ∨ w.heap.size ≤ k := by
  obtain ⟨p, c, rfl, hlc, hcm, _⟩ := hM w (Chg.refl _ _)
  have hn9 : (L.length : Int) ≤ 9223372036854775807 := by unfold maxLen at hcm; omega
  have HM := hide hM
  have HO := hide (ok_bag h)
  have HH := hide h
  have HL := hide hL
  have HBB := hide hB
  obtain ⟨n, hn⟩ : ∃ n, L.length = n := ⟨_, rfl⟩
  rw [hn] at hn9 HM ⊢
  have HN := hide hn
  have hl0 := h.ok.l0
  have HL0 := hide hl0
  clear h hM hlc hcm hL hB hn hl0
  go_enter Try.func30, Try.ntmps30
  go_wp2_with fail
  refine HO.out.mono ?_
  rintro e w' ⟨rfl, rfl⟩
  go_wp2_with fail
  go_loopw [5, 7, 13] (fun cnt _ i wr => ∃ (k : Nat) (v' : Value), k ≤ n ∧ i = .int .i64 k ∧ cnt = .int .i64 ((sendB x (L.take k)).last - x.last) ∧ Hid (BgIs B wr g v' (sendB x (L.take k)) ∧ Chg w wr (BgS g v) ∧ ∀ j, BgS g v' j → BgS g v j ∨ w.heap.size ≤ j)) (fun _ _ i _ => n - (intOf i).toNat)
  case atStart => exact ⟨0, v, by omega, rfl, by simp [sendB], hide ⟨HH.out, Chg.refl _ _, fun j hj => .inl hj⟩⟩
  case round =>
    obtain ⟨k, v', hk, rfl, rfl, HR⟩ := hrel
    by_cases hlt : k < n
    · have hkL : k < L.length := by have := HN.out; omega
      obtain ⟨m, hm⟩ : ∃ m, L[k]? = some m := ⟨_, List.getElem?_eq_getElem hkL⟩
      have HT : Hid (L.take (k + 1) = L.take k ++ [m]) := hide (by rw [List.take_add_one, hm]; rfl)
      obtain ⟨p', c', hpe, _, _, hms⟩ := HM.out wr HR.out.2.1
      injection hpe with hpe1 hpe2 hpe3
      subst hpe1 hpe3
      clear hpe2
      obtain ⟨g2, o2, ve, vv, vd, rfl, hmv, hc⟩ := hms k m hm
      obtain ⟨pe, ne, ce, rfl⟩ := hmv.es.sl
      obtain ⟨pv, nv, cv, rfl⟩ := hmv.vs.sl
      obtain ⟨pd, nd, cd, rfl⟩ := hmv.d.sl
      obtain ⟨oo, hoo⟩ : ∃ oo, o2 + k * 13 = oo := ⟨_, rfl⟩
      rw [hoo] at hc
      have c0 := hc 0 _ rfl
      have c1 := hc 1 _ rfl
      have c2 := hc 2 _ rfl
      have c3 := hc 3 _ rfl
      have c4 := hc 4 _ rfl
      have c5 := hc 5 _ rfl
      have c6 := hc 6 _ rfl
      have c7 := hc 7 _ rfl
      have c8 := hc 8 _ rfl
      have c9 := hc 9 _ rfl
      have c10 := hc 10 _ rfl
      have c11 := hc 11 _ rfl
      have c12 := hc 12 _ rfl
      rw [Nat.add_zero] at c0
      have hZ0 := (Below.refl wr.heap.size wr).alloc (Nat.le_refl _) (.cells #[.int .i64 m.k, .int .i64 m.f, .int .i64 m.t, .int .i64 m.tm, .int .i64 m.ix, .int .i64 m.lt, .int .i64 m.cm, .int .i64 m.rd, .bool m.ys, .bool m.dn, .slice pe ne ce, .slice pv nv cv, .slice pd nd cd] 26)
      have hZr := heap_alloc_new wr (.cells #[.int .i64 m.k, .int .i64 m.f, .int .i64 m.t, .int .i64 m.tm, .int .i64 m.ix, .int .i64 m.lt, .int .i64 m.cm, .int .i64 m.rd, .bool m.ys, .bool m.dn, .slice pe ne ce, .slice pv nv cv, .slice pd nd cd] 26)
      obtain ⟨Z, hZ⟩ : ∃ Z, wr.alloc (.cells #[.int .i64 m.k, .int .i64 m.f, .int .i64 m.t, .int .i64 m.tm, .int .i64 m.ix, .int .i64 m.lt, .int .i64 m.cm, .int .i64 m.rd, .bool m.ys, .bool m.dn, .slice pe ne ce, .slice pv nv cv, .slice pd nd cd] 26) = Z := ⟨_, rfl⟩
      obtain ⟨bz, hbz⟩ : ∃ bz, wr.heap.size = bz := ⟨_, rfl⟩
      rw [hZ] at hZ0 hZr
      have hZX := Box13.of_row hZr
      rw [hbz] at hZX
      have HZX := hide hZX
      have HMV := hide (hmv.below hZ0)
      have HZB := hide hZ0
      have HBZ := hide (HR.out.1.below hZ0)
      have HIN := hide (fun ok : okM m = true => (⟨ok, hmv.fits, hmv.es.fits, hmv.vs.fits⟩ : MIn m))
      have HCK := hide (checkM_any HMV.out)
      have HQ0 : Hid ((chkM m == 0) = okM m) := hide (by
        unfold chkM
        cases okM m <;> rfl)
      obtain ⟨ck, hck⟩ : ∃ c, chkM m = c := ⟨_, rfl⟩
      obtain ⟨q1, hq1⟩ : ∃ q, okM m = q := ⟨_, rfl⟩
      rw [hck] at HCK HQ0
      rw [hq1] at HQ0
      have HQ1 := hide hq1
      unfold msA at HCK
      obtain ⟨y0, y1, y2, y3, y4, y5, y6, y7, y8, y9, y10, y11, y12⟩ := hZX
      have hx2 := (HR.out.1.below hZ0)
      have HLA := hide (sendB_last x (L.take k))
      have HS1 := hide (sendB_snoc x (L.take k) m)
      have hlen : (L.take k).length = k := by rw [List.length_take]; omega
      have HLK := hide hlen
      clear hm hms hmv hc hZ0 hZr hck hq1 hx2 hlen hkL
      obtain ⟨X0, hX0⟩ : ∃ X, sendB x (L.take k) = X := ⟨_, rfl⟩
      rw [hX0] at HR HBZ HLA HS1 ⊢
      clear hX0
      go_wp2_with fail
      refine HCK.out.mono ?_
      rintro e w2 ⟨rfl, hb2⟩
      have HB2 := hide hb2
      have HX2 := hide (HZX.out.below hb2)
      have HG2 := hide (HBZ.out.below hb2)
      have HFU := hide (full_bag HG2.out)
      have t0 := HQ0.out
      clear y0 y1 y2 y3 y4 y5 y6 y7 y8 y9 y10 y11 y12 hb2 HQ0 HCK c0 c1 c2 c3 c4 c5 c6 c7 c8 c9 c10 c11 c12
      obtain ⟨y0, y1, y2, y3, y4, y5, y6, y7, y8, y9, y10, y11, y12⟩ := HX2.out
      have HC2 : Hid (Chg w w2 (BgS g v)) := hide ((HR.out.2.1.trans (Chg.of_below HZB.out (fun _ => False)) (fun k hk => hk.elim)).trans (Chg.of_below HB2.out (fun _ => False)) (fun k hk => hk.elim))
      cases q1
      · have HSE : Hid (sendB x (L.take (k + 1)) = X0) := hide (by rw [HT.out, HS1.out]; unfold send1; rw [HQ1.out]; rfl)
        go_wp2
        go_roundw
        case rel => exact ⟨k + 1, v', by omega, by go_num, by rw [HSE.out], hide ⟨by rw [HSE.out]; exact HG2.out, HC2.out, HR.out.2.2⟩⟩
        case measure => simp [intOf]; omega
      · go_wp2_with fail
        refine HFU.out.mono ?_
        rintro e w3 ⟨rfl, rfl⟩
        obtain ⟨q2, hq2⟩ : ∃ q, fullB X0 = q := ⟨_, rfl⟩
        rw [hq2]
        cases q2
        · have HSE : Hid (sendB x (L.take (k + 1)) = ⟨X0.last + 1, X0.ps ++ [(X0.last + 1, m)]⟩) := hide (by rw [HT.out, HS1.out]; unfold send1; rw [HQ1.out, hq2]; rfl)
          have HFL : Hid (X0.ps.length < 256) := hide (by unfold fullB at hq2; have := of_decide_eq_false hq2; omega)
          have HPY := hide (payload_any (HMV.out.below HB2.out) HQ1.out)
          unfold msA at HPY
          have hcl : IntKind.i64.wrap (X0.last - x.last + 1) = X0.last + 1 - x.last := by
            have := HLA.out
            have := HL.out
            have := HLK.out
            rw [IntKind.wrap_i64]
            omega
          have hb1 : X0.last - x.last ≤ 1000000 := by have := HLA.out; have := HL.out; have := HLK.out; have := HN.out; have := HL0.out; omega
          have hb0 : 0 ≤ X0.last - x.last := by have := HLA.out; omega
          clear hq2
          go_wp2_with fail
          refine HPY.out.mono ?_
          rintro e w4 ⟨v4, rfl, ho4, hb4⟩
          obtain ⟨p4, n4, c4, rfl⟩ := ho4.by_.sl
          have HG4 := hide (HG2.out.below hb4)
          have HS4 := HG2.out.S
          have HPU := hide (put_bag HG4.out (HIN.out HQ1.out) HFL.out (by have := HLA.out; have := HL.out; have := HLK.out; have := HN.out; omega) (ho4.mono (B' := B) (by have := HBB.out; have := HC2.out.size; omega)) (fun j hj => by
            have h1 := (ho4.lt' (payL_pos _) j hj).1
            refine ⟨fun e => ?_, fun e => ?_⟩
            · have := (HS4 j (.inl e)).2; omega
            · have := (HS4 j (.inr e)).2; omega) (by have := HBB.out; have := HC2.out.size; have := hb4.size; omega))
          have HC4 : Hid (Chg w w4 (BgS g v)) := hide (HC2.out.trans (Chg.of_below hb4 (fun _ => False)) (fun k hk => hk.elim))
          clear ho4 hb4 HS4 HPY
          go_wp2_with fail
          refine HPU.out.mono ?_
          rintro e w5 ⟨rfl, v5, hg5, hc5, hs5⟩
          have HG5 := hide hg5
          have HC5 : Hid (Chg w w5 (BgS g v)) := hide (HC4.out.trans hc5 (fun j hj => HR.out.2.2 j hj))
          have HS5 : Hid (∀ j, BgS g v5 j → BgS g v j ∨ w.heap.size ≤ j) := hide (fun j hj => by
            rcases hs5 j hj with h1 | h1
            · exact HR.out.2.2 j h1
            · exact .inr (by have := HC4.out.size; omega))
          clear hg5 hc5 hs5 HPU
          go_wp2
          go_roundw
          case rel => exact ⟨k + 1, v5, by omega, by go_num, by rw [HSE.out], hide ⟨by rw [HSE.out]; exact HG5.out, HC5.out, HS5.out⟩⟩
          case measure => simp [intOf]; omega
        · have HSE : Hid (sendB x (L.take (k + 1)) = X0) := hide (by rw [HT.out, HS1.out]; unfold send1; rw [hq2, HQ1.out]; rfl)
          clear hq2
          go_wp2
          go_roundw
          case rel => exact ⟨k + 1, v', by omega, by go_num, by rw [HSE.out], hide ⟨by rw [HSE.out]; exact HG2.out, HC2.out, HR.out.2.2⟩⟩
          case measure => simp [intOf]; omega
    · have HT : Hid (L.take k = L) := hide (List.take_of_length_le (by have := HN.out; omega))
      rw [HT.out] at HR ⊢
      go_wp2
      go_ret
      exact ⟨rfl, v', HR.out⟩
end Go.Proofs.Ytiiollgipfggmaa
