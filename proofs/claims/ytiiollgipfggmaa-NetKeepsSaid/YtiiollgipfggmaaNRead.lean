/- A message is read: the program. -/
import Derived.Test.YtiiollgipfggmaaNRdA
import Derived.Deep.RegionLaw
import Derived.Deep.RegionHeld3
namespace Go.Proofs.Ytiiollgipfggmaa
set_option linter.unusedVariables false
set_option linter.unusedSimpArgs false
open Go.RowKit

theorem set13 (Y : World) (r : Nat) (t : TypeId) (v0 v1 v2 v3 v4 v5 v6 v7 v8 v9 v10 v11 v12 x0 x1 x2 x3 x4 x5 x6 x7 x8 x9 x10 x11 x12 : Value) (h : Y.heap[r]? = some (.cells #[v0, v1, v2, v3, v4, v5, v6, v7, v8, v9, v10, v11, v12] t)) :
    (((((((((((((Y.setCell ⟨r, 0, none⟩ x0).setCell ⟨r, 1, none⟩ x1).setCell ⟨r, 2, none⟩ x2).setCell ⟨r, 3, none⟩ x3).setCell ⟨r, 4, none⟩ x4).setCell ⟨r, 5, none⟩ x5).setCell ⟨r, 6, none⟩ x6).setCell ⟨r, 7, none⟩ x7).setCell ⟨r, 8, none⟩ x8).setCell ⟨r, 9, none⟩ x9).setCell ⟨r, 10, none⟩ x10).setCell ⟨r, 11, none⟩ x11).setCell ⟨r, 12, none⟩ x12).heap[r]? = some (.cells #[x0, x1, x2, x3, x4, x5, x6, x7, x8, x9, x10, x11, x12] t) := by
  have q0 := heap_setCell_same Y r 0 _ t x0 h
  have q1 := heap_setCell_same _ r 1 _ t x1 q0
  have q2 := heap_setCell_same _ r 2 _ t x2 q1
  have q3 := heap_setCell_same _ r 3 _ t x3 q2
  have q4 := heap_setCell_same _ r 4 _ t x4 q3
  have q5 := heap_setCell_same _ r 5 _ t x5 q4
  have q6 := heap_setCell_same _ r 6 _ t x6 q5
  have q7 := heap_setCell_same _ r 7 _ t x7 q6
  have q8 := heap_setCell_same _ r 8 _ t x8 q7
  have q9 := heap_setCell_same _ r 9 _ t x9 q8
  have q10 := heap_setCell_same _ r 10 _ t x10 q9
  have q11 := heap_setCell_same _ r 11 _ t x11 q10
  have q12 := heap_setCell_same _ r 12 _ t x12 q11
  simp only [List.setIfInBounds_toArray, List.set_cons_succ, List.set_cons_zero] at q12
  exact q12
theorem far_new {w w' : World} {B : Nat} {v : Value} {L : List En} {p : Option Addr} {n c : Nat} {d : List UInt8} {i t : Int} (ho : Own w.heap.size w' (.slice p n c) d) (he : OwnEns B w v L) : Far ⟨i, t, p, n, c⟩ v := by
  rcases ho.far with h0 | ⟨g, hp, hB, _⟩
  · exact .inl h0
  · refine .inr fun k hk e => ?_
    obtain ⟨E, hE, _⟩ := he
    have := (hE.lt k e).2
    dsimp only at hk
    rw [hp] at hk
    injection hk with hk
    have e2 : (⟨g, 0, none⟩ : Addr).block = g := rfl
    omega
section
variable {W w w' : World} {g : Nat} {u : Value} {st st' : Nat × Nat} {H : Ms} {ve vv : Value} {L : List En} {V : List Int}
theorem RdAt.cellPut4 (h : RdAt W w g u st H ve L) (hg : w.grownBy w' ve.ownBlock) : w'.cell? ⟨W.heap.size, 4, none⟩ = some (.int .i64 H.ix) := by
  obtain ⟨E, hE, _⟩ := h.es
  have hk : ∀ k, ve.ownBlock = some k → W.heap.size + 1 ≤ k := fun k e => (hE.lt k e).1
  have hrow := (hg.block _ h.lt (fun e => by have := hk _ e.symm; omega)).trans h.row
  exact cell_of_row w' _ 4 _ 26 (0, 0) hrow
end
/-- What read says. -/
def ReadPost (w : World) (m : Ms) (e : Ending) (w' : World) : Prop := ∃ ve vv vd, e = .returned (msA m ve vv vd) ∧ MsO w.heap.size w' m ve vv vd ∧ Below w.heap.size w w'

set_option maxRecDepth 200000 in
set_option maxHeartbeats 4000000 in
theorem read_any {w : World} {v : Value} {l : List UInt8} (hv : By w v l) (hl : l.length ≤ 1000000) : Calls Try.prog 52 #[v] w (ReadPost w (readP l)) := by
  obtain ⟨p0, n0, c0, rfl⟩ := hv.sl
  have HL := hide hl
  obtain ⟨n1, a1, E1, h1⟩ : ∃ n a E, nx l (0, 0) = (n, a, E) := ⟨_, _, _, rfl⟩
  have l1 : a1 ≤ l.length := by have := (nx_le (l := l) (st := (0, 0)) (by dsimp only; omega)).1; rw [h1] at this; exact this
  obtain ⟨n2, a2, E2, h2⟩ : ∃ n a E, nx l (a1, E1) = (n, a, E) := ⟨_, _, _, rfl⟩
  have l2 : a2 ≤ l.length := by have := (nx_le (l := l) (st := (a1, E1)) (by dsimp only; omega)).1; rw [h2] at this; exact this
  obtain ⟨n3, a3, E3, h3⟩ : ∃ n a E, nx l (a2, E2) = (n, a, E) := ⟨_, _, _, rfl⟩
  have l3 : a3 ≤ l.length := by have := (nx_le (l := l) (st := (a2, E2)) (by dsimp only; omega)).1; rw [h3] at this; exact this
  obtain ⟨n4, a4, E4, h4⟩ : ∃ n a E, nx l (a3, E3) = (n, a, E) := ⟨_, _, _, rfl⟩
  have l4 : a4 ≤ l.length := by have := (nx_le (l := l) (st := (a3, E3)) (by dsimp only; omega)).1; rw [h4] at this; exact this
  obtain ⟨n5, a5, E5, h5⟩ : ∃ n a E, nx l (a4, E4) = (n, a, E) := ⟨_, _, _, rfl⟩
  have l5 : a5 ≤ l.length := by have := (nx_le (l := l) (st := (a4, E4)) (by dsimp only; omega)).1; rw [h5] at this; exact this
  obtain ⟨n6, a6, E6, h6⟩ : ∃ n a E, nx l (a5, E5) = (n, a, E) := ⟨_, _, _, rfl⟩
  have l6 : a6 ≤ l.length := by have := (nx_le (l := l) (st := (a5, E5)) (by dsimp only; omega)).1; rw [h6] at this; exact this
  obtain ⟨n7, a7, E7, h7⟩ : ∃ n a E, nx l (a6, E6) = (n, a, E) := ⟨_, _, _, rfl⟩
  have l7 : a7 ≤ l.length := by have := (nx_le (l := l) (st := (a6, E6)) (by dsimp only; omega)).1; rw [h7] at this; exact this
  obtain ⟨n8, a8, E8, h8⟩ : ∃ n a E, nx l (a7, E7) = (n, a, E) := ⟨_, _, _, rfl⟩
  have l8 : a8 ≤ l.length := by have := (nx_le (l := l) (st := (a7, E7)) (by dsimp only; omega)).1; rw [h8] at this; exact this
  obtain ⟨y9, a9, E9, h9⟩ : ∃ n a E, fx l (a8, E8) = (n, a, E) := ⟨_, _, _, rfl⟩
  have l9 : a9 ≤ l.length := by have := (fx_le (l := l) (st := (a8, E8)) (by dsimp only; omega)); rw [h9] at this; exact this
  obtain ⟨y10, a10, E10, h10⟩ : ∃ n a E, fx l (a9, E9) = (n, a, E) := ⟨_, _, _, rfl⟩
  have l10 : a10 ≤ l.length := by have := (fx_le (l := l) (st := (a9, E9)) (by dsimp only; omega)); rw [h10] at this; exact this
  have hH : rdH l = (⟨n1, n2, n3, n4, n5, n6, n7, n8, y9, y10, [], [], []⟩, a10, E10) := by
    unfold rdH
    simp only [h1, h2, h3, h4, h5, h6, h7, h8, h9, h10]
  obtain ⟨H, hHH⟩ : ∃ H : Ms, (⟨n1, n2, n3, n4, n5, n6, n7, n8, y9, y10, [], [], []⟩ : Ms) = H := ⟨_, rfl⟩
  have HF := hide (rdH_fits l)
  have H1 := hide h1
  have L1 := hide l1
  clear h1 l1
  have H2 := hide h2
  have L2 := hide l2
  clear h2 l2
  have H3 := hide h3
  have L3 := hide l3
  clear h3 l3
  have H4 := hide h4
  have L4 := hide l4
  clear h4 l4
  have H5 := hide h5
  have L5 := hide l5
  clear h5 l5
  have H6 := hide h6
  have L6 := hide l6
  clear h6 l6
  have H7 := hide h7
  have L7 := hide l7
  clear h7 l7
  have H8 := hide h8
  have L8 := hide l8
  clear h8 l8
  have H9 := hide h9
  have L9 := hide l9
  clear h9 l9
  have H10 := hide h10
  have L10 := hide l10
  clear h10 l10
  have HHH := hide hH
  have HHD := hide hHH
  obtain ⟨X, hX⟩ : ∃ X, w.alloc (.cells #[.int .i64 0, .int .i64 0, .int .i64 0, .int .i64 0, .int .i64 0, .int .i64 0, .int .i64 0, .int .i64 0, .bool false, .bool false, .slice none 0 0, .slice none 0 0, .slice none 0 0] 26) = X := ⟨_, rfl⟩
  have hrX : X.heap[w.heap.size]? = some (.cells #[.int .i64 0, .int .i64 0, .int .i64 0, .int .i64 0, .int .i64 0, .int .i64 0, .int .i64 0, .int .i64 0, .bool false, .bool false, .slice none 0 0, .slice none 0 0, .slice none 0 0] 26 (0, 0)) := by rw [← hX]; exact heap_alloc_new w _
  have hbX : Below w.heap.size w X := by rw [← hX]; exact (Below.refl _ _).alloc (Nat.le_refl _) _
  have hwX : w.heap.size < X.heap.size := (Array.getElem?_eq_some_iff.1 hrX).1
  have HBX := hide hbX
  have HRX := hide hrX
  have HOV := hide (over_any (hv.below hbX) (by omega))
  have HX := hide hX
  have HWX := hide hwX
  clear hv hbX hrX hX hl hH hHH hwX
  go_enter Try.func52, Try.ntmps52
  go_wp2_with fail
  rw [HX.out]
  refine HOV.out.mono ?_
  rintro e w0 ⟨g, u, rfl, hg0, hS0, hO0, hne0, hb0⟩
  obtain ⟨pu, nu, cu, rfl⟩ := hO0.by_.sl
  have hn := hO0.by_.len.1
  have HN := hide hn
  have S0 := hide hS0
  have HBY := hide hO0.by_
  have HNE := hide hne0
  have HB0 := hide (HBX.out.trans (hb0.mono HBX.out.size))
  have R0 := hide ((hb0.block _ HWX.out).trans HRX.out)
  have hgw : w.heap.size < g := by have := HWX.out; omega
  have hgl0 := hS0.lt
  have HGB : Hid (∀ V, w0.grownBy V (some g) → By V (.slice pu nu cu) l) := hide fun V hV => HBY.out.grown hV HNE.out
  have G0 : Hid (w0.grownBy w0 (some g)) := hide (World.grownBy.refl _ _)
  clear hg0 hS0 hO0 hne0 hb0 hn HOV HX
  have k1 := scanNumber_any S0.out (HGB.out _ G0.out) (Nat.zero_le _) (N := n1) (A := a1) (E := E1) H1.out
  go_wp2_with fail
  refine k1.mono ?_
  rintro e w1 ⟨rfl, hs, hg⟩
  have S1 := hide hs
  have G1 := hide (gtrans G0.out hg)
  clear hs hg k1 S0 G0
  have k2 := scanNumber_any S1.out (HGB.out _ G1.out) (by have := L1.out; have := HN.out; omega) (N := n2) (A := a2) (E := E2) H2.out
  go_wp2_with fail
  refine k2.mono ?_
  rintro e w2 ⟨rfl, hs, hg⟩
  have S2 := hide hs
  have G2 := hide (gtrans G1.out hg)
  clear hs hg k2 S1 G1
  have k3 := scanNumber_any S2.out (HGB.out _ G2.out) (by have := L2.out; have := HN.out; omega) (N := n3) (A := a3) (E := E3) H3.out
  go_wp2_with fail
  refine k3.mono ?_
  rintro e w3 ⟨rfl, hs, hg⟩
  have S3 := hide hs
  have G3 := hide (gtrans G2.out hg)
  clear hs hg k3 S2 G2
  have k4 := scanNumber_any S3.out (HGB.out _ G3.out) (by have := L3.out; have := HN.out; omega) (N := n4) (A := a4) (E := E4) H4.out
  go_wp2_with fail
  refine k4.mono ?_
  rintro e w4 ⟨rfl, hs, hg⟩
  have S4 := hide hs
  have G4 := hide (gtrans G3.out hg)
  clear hs hg k4 S3 G3
  have k5 := scanNumber_any S4.out (HGB.out _ G4.out) (by have := L4.out; have := HN.out; omega) (N := n5) (A := a5) (E := E5) H5.out
  go_wp2_with fail
  refine k5.mono ?_
  rintro e w5 ⟨rfl, hs, hg⟩
  have S5 := hide hs
  have G5 := hide (gtrans G4.out hg)
  clear hs hg k5 S4 G4
  have k6 := scanNumber_any S5.out (HGB.out _ G5.out) (by have := L5.out; have := HN.out; omega) (N := n6) (A := a6) (E := E6) H6.out
  go_wp2_with fail
  refine k6.mono ?_
  rintro e w6 ⟨rfl, hs, hg⟩
  have S6 := hide hs
  have G6 := hide (gtrans G5.out hg)
  clear hs hg k6 S5 G5
  have k7 := scanNumber_any S6.out (HGB.out _ G6.out) (by have := L6.out; have := HN.out; omega) (N := n7) (A := a7) (E := E7) H7.out
  go_wp2_with fail
  refine k7.mono ?_
  rintro e w7 ⟨rfl, hs, hg⟩
  have S7 := hide hs
  have G7 := hide (gtrans G6.out hg)
  clear hs hg k7 S6 G6
  have k8 := scanNumber_any S7.out (HGB.out _ G7.out) (by have := L7.out; have := HN.out; omega) (N := n8) (A := a8) (E := E8) H8.out
  go_wp2_with fail
  refine k8.mono ?_
  rintro e w8 ⟨rfl, hs, hg⟩
  have S8 := hide hs
  have G8 := hide (gtrans G7.out hg)
  clear hs hg k8 S7 G7
  have k9 := scanFlag_any S8.out (HGB.out _ G8.out) (by have := L8.out; have := HN.out; omega) (y := y9) (A := a9) (E := E9) H9.out
  go_wp2_with fail
  refine k9.mono ?_
  rintro e w9 ⟨rfl, hs, hg⟩
  have S9 := hide hs
  have G9 := hide (gtrans G8.out hg)
  clear hs hg k9 S8 G8
  have k10 := scanFlag_any S9.out (HGB.out _ G9.out) (by have := L9.out; have := HN.out; omega) (y := y10) (A := a10) (E := E10) H10.out
  go_wp2_with fail
  refine k10.mono ?_
  rintro e w10 ⟨rfl, hs, hg⟩
  have S10 := hide hs
  have G10 := hide (gtrans G9.out hg)
  clear hs hg k10 S9 G9
  have R1 : Hid (w10.heap[w.heap.size]? = some (.cells #[.int .i64 0, .int .i64 0, .int .i64 0, .int .i64 0, .int .i64 0, .int .i64 0, .int .i64 0, .int .i64 0, .bool false, .bool false, .slice none 0 0, .slice none 0 0, .slice none 0 0] 26 (0, 0))) := hide ((G10.out.block _ (show w.heap.size < w0.heap.size by omega) (fun e => by injection e with e; omega)).trans R0.out)
  have hgl : g < w10.heap.size := S10.out.lt
  have hwl : w.heap.size < w10.heap.size := by omega
  have HB10 : Hid (Below w.heap.size w w10) := hide (HB0.out.grown G10.out HB0.out.size fun k hk => by injection hk with hk; omega)
  have HBY10 := hide (HGB.out _ G10.out)
  have hRD : RdAt w10 (w10.alloc (.cells #[.int .i64 n1, .int .i64 n2, .int .i64 n3, .int .i64 n4, .int .i64 n5, .int .i64 n6, .int .i64 n7, .int .i64 n8, .bool y9, .bool y10, .slice none 0 0, .slice none 0 0, .slice none 0 0] 26)) g (.slice pu nu cu) (a10, E10) H (.slice none 0 0) [] := by
    rw [← HHD.out]
    exact ⟨hgl, (Below.heap_alloc _ _ _ S10.out.lt).trans S10.out, (World.grownBy_alloc w10 _ none).but _, heap_alloc_new w10 _, ⟨[], OwnE.nil _ _, rfl, by simp⟩⟩
  obtain ⟨Y, hY⟩ : ∃ Y, w10.alloc (.cells #[.int .i64 n1, .int .i64 n2, .int .i64 n3, .int .i64 n4, .int .i64 n5, .int .i64 n6, .int .i64 n7, .int .i64 n8, .bool y9, .bool y10, .slice none 0 0, .slice none 0 0, .slice none 0 0] 26) = Y := ⟨_, rfl⟩
  rw [hY] at hRD
  have HRD := hide hRD
  have HY := hide hY
  have HGB2 : Hid (∀ V, w10.grownBy V (some g) → By V (.slice pu nu cu) l) := hide fun V hV => HBY10.out.grown hV HNE.out
  clear hRD HGB HBX HRX G10 S10 hgl0 hY
  obtain ⟨nc, ac, Ec, hc⟩ : ∃ n a E, nx l (a10, E10) = (n, a, E) := ⟨_, _, _, rfl⟩
  have hcl := nx_le (l := l) (st := (a10, E10)) L10.out
  rw [hc] at hcl
  dsimp only at hcl
  have HCL := hide hcl
  have hnc9 : (nc : Int) ≤ 9223372036854775807 := by omega
  have k11 := scanNumber_any HRD.out.sc (HGB2.out _ HRD.out.gr) (by have := L10.out; have := HN.out; dsimp only; omega) (N := nc) (A := ac) (E := Ec) hc
  have HC := hide hc
  clear hc hcl
  go_wp2_with fail
  rw [HY.out]
  refine k11.mono ?_
  rintro e w11 ⟨rfl, hs, hg⟩
  have HR1 := hide (HRD.out.call (st' := (ac, Ec)) hs hg)
  clear hs hg k11 HRD HY
  obtain ⟨bm, hbm⟩ : ∃ bm, w10.heap.size = bm := ⟨_, rfl⟩
  obtain ⟨mc, hmc⟩ : ∃ mc, min nc 8 = mc := ⟨_, rfl⟩
  have hmi : min (nc : Int) 8 = (mc : Int) := by omega
  have HMC := hide hmc
  have hm8 : mc ≤ 8 := by omega
  clear hmc
  have st1 : (ac, Ec).1 ≤ l.length := HCL.out.1
  have HST1 := hide st1
  clear st1
  go_wp2_with fail
  go_loopw [31] (fun i wr => ∃ (k : Nat) (ve : Value), k ≤ mc ∧ i = .int .i64 k ∧ Hid (RdAt w10 wr g (.slice pu nu cu) (rdEs l H.ix k (ac, Ec)).2 H ve (rdEs l H.ix k (ac, Ec)).1)) (fun i _ => mc - (intOf i).toNat)
  case atStart => exact ⟨0, _, by omega, rfl, HR1⟩
  case round =>
    obtain ⟨k, ve, hk, rfl, HR⟩ := hrel
    obtain ⟨st, hst⟩ : ∃ st, (rdEs l H.ix k (ac, Ec)).2 = st := ⟨_, rfl⟩
    obtain ⟨L, hLL⟩ : ∃ L, (rdEs l H.ix k (ac, Ec)).1 = L := ⟨_, rfl⟩
    have hsl : st.1 ≤ l.length ∧ L.length = k := by
      have := rdEs_le (st := (ac, Ec)) (ix := H.ix) HST1.out k
      rw [hst, hLL] at this
      exact this
    rw [hst, hLL] at HR
    obtain ⟨pe, ne, ce, rfl⟩ := HR.out.es.ens.sl
    have hne : ne = k := by have := HR.out.es.ens.len.1; omega
    by_cases hlt : k < mc
    · obtain ⟨na, aa, Ea, ha⟩ : ∃ n a E, nx l st = (n, a, E) := ⟨_, _, _, rfl⟩
      have hal := nx_le (l := l) (st := st) hsl.1
      have hfi := nx_fits (l := l) (st := st) hsl.1
      rw [ha] at hal hfi
      dsimp only at hal hfi
      obtain ⟨X, hX⟩ : ∃ X, xl l (aa, Ea) = X := ⟨_, rfl⟩
      have HSUC : Hid (rdEs l H.ix (k + 1) (ac, Ec) = (L ++ [⟨idxE H.ix k, (na : Nat), X.1⟩], X.2)) := hide (by
        unfold rdEs
        rw [hst, hLL, ha, hX])
      have HT0 := hide (fun V (h5 : RdAt w10 V g (.slice pu nu cu) (aa, Ea) H (.slice pe ne ce) L) => text_any (st := (aa, Ea)) h5.sc (HGB2.out _ h5.gr) HNE.out hal.1 HL.out)
      rw [hX] at HT0
      obtain ⟨x, ax, Ex⟩ := X
      dsimp only at HSUC HT0
      have HN1 := hide (fun q : Nat => scanNumber_any (w := wr.drewN q) (HR.out.drewN q).sc (HGB2.out _ (HR.out.drewN q).gr) (by have := HN.out; omega) (N := na) (A := aa) (E := Ea) ha)
      obtain ⟨i1, q1⟩ : ∃ i, IntKind.i64.wrap (H.ix + 1) = i := ⟨_, rfl⟩
      obtain ⟨i2, q2⟩ : ∃ i, IntKind.i64.wrap (i1 + (ne : Int)) = i := ⟨_, rfl⟩
      have HI2 : Hid (i2 = idxE H.ix k) := hide (by unfold idxE; rw [q1, ← hne, q2])
      have HI3 : Hid (fits i2) := hide (by rw [HI2.out]; unfold fits idxE; rw [IntKind.wrap_i64]; omega)
      have HFI := hide hfi
      have HSL := hide hsl
      have HHN := hide hne
      have g10 := HR.out.cell 10 rfl
      have g4 := HR.out.cell 4 rfl
      have hne9 : (ne : Int) ≤ 100 := by omega
      rw [hbm] at g10 g4
      clear ha hal hfi hX hst hLL hsl hne
      go_wp2_with fail
      refine wp_region_held_drew (S := fun V => V.cell? ⟨bm, 4, none⟩ = some (.int .i64 H.ix)) (by kernel_rfl) ?_ (fun hHeld => ?_)
      · (try dsimp only)
        first | exact g4 | go_keep
      refine wpAnyH_take (i := 0) (oi := { dst := some 33, op := Op.fieldAddr 26 (Operand.tmp 4) 10, type := 0, pos := "msg.go:67", after := #[], guard := none }) (v := ?_) rfl (by kernel_rfl) (by kernel_rfl) (by kernel_rfl) (fun _ _ _ h => h) (Or.inl ⟨by rfl, ?_⟩) (by assumption) ?_
      rotate_left
      · intro w hSw
        (try dsimp only at hSw)
        go_simp
        try with_reducible rfl
      try simp only [Act.put, List.setIfInBounds_toArray, List.set_cons_zero, List.set_cons_succ]
      refine wpAnyH_take (i := 2) (oi := { dst := some 35, op := Op.fieldAddr 26 (Operand.tmp 4) 4, type := 0, pos := "msg.go:67", after := #[], guard := none }) (v := ?_) rfl (by kernel_rfl) (by kernel_rfl) (by kernel_rfl) (fun _ _ _ h => h) (Or.inl ⟨by rfl, ?_⟩) (by assumption) ?_
      rotate_left
      · intro w hSw
        (try dsimp only at hSw)
        go_simp
        try with_reducible rfl
      try simp only [Act.put, List.setIfInBounds_toArray, List.set_cons_zero, List.set_cons_succ]
      refine wpAnyH_take (i := 3) (oi := { dst := some 36, op := Op.load 3 (Operand.tmp 35), type := 3, pos := "msg.go:67", after := _, guard := none }) (v := ?_) rfl (by kernel_rfl) (by kernel_rfl) (by kernel_rfl) (fun _ _ _ h => h) (Or.inl ⟨by rfl, ?_⟩) (by assumption) ?_
      rotate_left
      · intro w hSw
        (try dsimp only at hSw)
        go_simp
        try with_reducible rfl
      try simp only [Act.put, List.setIfInBounds_toArray, List.set_cons_zero, List.set_cons_succ]
      refine wpAnyH_take (i := 4) (oi := { dst := some 37, op := Op.binOp BinOp.add 3 (Operand.tmp 36) (Operand.const (Value.int IntKind.i64 1)) 3, type := 3, pos := "msg.go:67", after := _, guard := none }) (v := ?_) rfl (by kernel_rfl) (by kernel_rfl) (by kernel_rfl) (fun _ _ _ h => h) (Or.inl ⟨by rfl, ?_⟩) (by assumption) ?_
      rotate_left
      · intro w hSw
        (try dsimp only at hSw)
        go_simp
        try with_reducible rfl
      try simp only [Act.put, List.setIfInBounds_toArray, List.set_cons_zero, List.set_cons_succ]
      refine wpAnyH_take (i := 5) (oi := { dst := some 38, op := Op.fieldAddr 26 (Operand.tmp 4) 10, type := 0, pos := "msg.go:67", after := #[], guard := none }) (v := ?_) rfl (by kernel_rfl) (by kernel_rfl) (by kernel_rfl) (fun _ _ _ h => h) (Or.inl ⟨by rfl, ?_⟩) (by assumption) ?_
      rotate_left
      · intro w hSw
        (try dsimp only at hSw)
        go_simp
        try with_reducible rfl
      try simp only [Act.put, List.setIfInBounds_toArray, List.set_cons_zero, List.set_cons_succ]
      refine wpAnyH_take (i := 9) (oi := { dst := some 42, op := Op.move (Operand.tmp 3), type := 111, pos := "msg.go:67", after := #[], guard := none }) (v := ?_) rfl (by kernel_rfl) (by kernel_rfl) (by kernel_rfl) (fun _ _ _ h => h) (Or.inl ⟨by rfl, ?_⟩) (by assumption) ?_
      rotate_left
      · intro w hSw
        (try dsimp only at hSw)
        go_simp
        try with_reducible rfl
      try simp only [Act.put, List.setIfInBounds_toArray, List.set_cons_zero, List.set_cons_succ]
      refine wpAnyH_take (i := 11) (oi := { dst := some 44, op := Op.move (Operand.tmp 3), type := 111, pos := "msg.go:67", after := #[], guard := none }) (v := ?_) rfl (by kernel_rfl) (by kernel_rfl) (by kernel_rfl) (fun _ _ _ h => h) (Or.inl ⟨by rfl, ?_⟩) (by assumption) ?_
      rotate_left
      · intro w hSw
        (try dsimp only at hSw)
        go_simp
        try with_reducible rfl
      try simp only [Act.put, List.setIfInBounds_toArray, List.set_cons_zero, List.set_cons_succ]
      refine wpAnyH_ready (rs := [1, 6, 10]) (by kernel_rfl) (by simp) ?_
      refine AllReadyH.cons (o := { dst := some 34, op := Op.load 22 (Operand.tmp 33), type := 22, pos := "msg.go:67", after := _, guard := none }) rfl (fun K hK => ?_) ?_
      · go_simp
        first
          | refine hK.out _ _ ?_ (fun hHeld => ?_)
          | (go_wp2_with fail; refine hK.out _ _ ?_ (fun hHeld => ?_))
        · (try dsimp only)
          first | assumption | go_keep
        clear hK K
        try simp only [Act.put, List.setIfInBounds_toArray, List.set_cons_zero, List.set_cons_succ]
        refine wpAnyH_ready (rs := [6, 10]) (by kernel_rfl) (by simp) ?_
        refine AllReadyH.cons (o := { dst := some 39, op := Op.load 22 (Operand.tmp 38), type := 22, pos := "msg.go:67", after := _, guard := none }) rfl (fun K hK => ?_) ?_
        · go_simp
          first
            | refine hK.out _ _ ?_ (fun hHeld => ?_)
            | (go_wp2_with fail; refine hK.out _ _ ?_ (fun hHeld => ?_))
          · (try dsimp only)
            first | assumption | go_keep
          clear hK K
          try simp only [Act.put, List.setIfInBounds_toArray, List.set_cons_zero, List.set_cons_succ]
          refine wpAnyH_take (i := 7) (oi := { dst := some 40, op := Op.call { callee := Callee.builtin Builtin.len, args := #[Operand.tmp 39], argTypes := #[22] }, type := 3, pos := "msg.go:67", after := _, guard := none }) (v := ?_) rfl (by kernel_rfl) (by kernel_rfl) (by kernel_rfl) (fun _ _ _ h => h) (Or.inl ⟨by rfl, ?_⟩) (by assumption) ?_
          rotate_left
          · intro w hSw
            (try dsimp only at hSw)
            go_simp
            try with_reducible rfl
          try simp only [Act.put, List.setIfInBounds_toArray, List.set_cons_zero, List.set_cons_succ]
          refine wpAnyH_take (i := 8) (oi := { dst := some 41, op := Op.binOp BinOp.add 3 (Operand.tmp 37) (Operand.tmp 40) 3, type := 3, pos := "msg.go:67", after := _, guard := none }) (v := ?_) rfl (by kernel_rfl) (by kernel_rfl) (by kernel_rfl) (fun _ _ _ h => h) (Or.inl ⟨by rfl, ?_⟩) (by assumption) ?_
          rotate_left
          · intro w hSw
            (try dsimp only at hSw)
            go_simp
            try with_reducible rfl
          try simp only [Act.put, List.setIfInBounds_toArray, List.set_cons_zero, List.set_cons_succ]
          refine wpAnyH_ready (rs := [10]) (by kernel_rfl) (by simp) ?_
          refine AllReadyH.cons (o := { dst := some 43, op := Op.call { callee := Callee.value (Operand.func 83), args := #[Operand.tmp 42], argTypes := #[111] }, type := 3, pos := "msg.go:67", after := _, guard := none }) rfl (fun K hK => ?_) ?_
          · go_simp
            refine (HN1.out 1).mono ?_
            rintro e w5 ⟨rfl, hs5, hg5⟩
            have HR5 := hide ((HR.out.drewN 1).call (st' := (aa, Ea)) hs5 hg5)
            have f10 := HR5.out.cell 10 rfl
            have f4 := HR5.out.cell 4 rfl
            rw [hbm] at f10 f4
            have HT1 := hide (HT0.out w5 HR5.out)
            clear hs5 hg5
            first
              | refine hK.out _ _ ?_ (fun hHeld => ?_)
              | (go_wp2_with fail; refine hK.out _ _ ?_ (fun hHeld => ?_))
            · (try dsimp only)
              exact f4
            clear hK K
            try simp only [Act.put, List.setIfInBounds_toArray, List.set_cons_zero, List.set_cons_succ]
            refine wpAnyH_ready (rs := [12]) (by kernel_rfl) (by simp) ?_
            refine AllReadyH.cons (o := { dst := some 45, op := Op.call { callee := Callee.value (Operand.func 85), args := #[Operand.tmp 44], argTypes := #[111] }, type := 24, pos := "msg.go:67", after := _, guard := none }) rfl (fun K hK => ?_) ?_
            · go_simp
              refine HT1.out.mono ?_
              rintro e w6 ⟨v6, rfl, ho6, hs6, hg6⟩
              obtain ⟨pd, cd, rfl⟩ := ho6.by_.shape
              have HR6 := hide (HR5.out.call (st' := (ax, Ex)) hs6 hg6)
              have e10 := HR6.out.cell 10 rfl
              have e4 := HR6.out.cell 4 rfl
              rw [hbm] at e10 e4
              have z10 := Lib.cell?_alloc_some (.cells #[.int .i64 i2, .int .i64 na, .slice pd x.length cd] 70) e10
              have z4 := Lib.cell?_alloc_some (.cells #[.int .i64 i2, .int .i64 na, .slice pd x.length cd] 70) e4
              obtain ⟨E6, hE6, hD6⟩ := HR6.out.es
              have HX6 := hide (ho6.mono (B' := w10.heap.size + 1) (by have := HR5.out.lt; omega))
              have HF6 : Hid (Far ⟨i2, na, pd, x.length, cd⟩ (.slice pe ne ce)) := hide (far_new ho6 HR5.out.es)
              have HB6 : Hid (w10.heap.size + 1 ≤ w6.heap.size) := hide (by have := HR6.out.lt; omega)
              have HL6 : Hid (E6.length ≤ 1000000) := hide (by have := hD6.1; have := HSL.out.2; omega)
              clear ho6 hs6 hg6
              first
                | refine hK.out _ _ ?_ (fun hHeld => ?_)
                | (go_wp2_with fail; refine hK.out _ _ ?_ (fun hHeld => ?_))
              · (try dsimp only)
                exact e4
              clear hK K
              try simp only [Act.put, List.setIfInBounds_toArray, List.set_cons_zero, List.set_cons_succ]
              refine wpAnyH_take (i := 13) (oi := { dst := some 46, op := Op.build 70 #[(0, Operand.tmp 41), (1, Operand.tmp 43), (2, Operand.tmp 45)], type := 70, pos := "msg.go:67", after := _, guard := none }) (v := ?_) rfl (by kernel_rfl) (by kernel_rfl) (by kernel_rfl) (fun _ _ _ h => h) (Or.inl ⟨by rfl, ?_⟩) (by assumption) ?_
              rotate_left
              · intro w hSw
                (try dsimp only at hSw)
                go_simp
                try with_reducible rfl
              try simp only [Act.put, List.setIfInBounds_toArray, List.set_cons_zero, List.set_cons_succ]
              refine wpAnyH_ready (rs := [14]) (by kernel_rfl) (by simp) ?_
              refine AllReadyH.cons (o := { dst := some 47, op := Op.buildSlice 22 1 #[(0, Operand.tmp 46)], type := 22, pos := "msg.go:67", after := _, guard := none }) rfl (fun K hK => ?_) ?_
              · go_simp
                first
                  | refine hK.out _ _ ?_ (fun hHeld => ?_)
                  | (go_wp2_with fail; refine hK.out _ _ ?_ (fun hHeld => ?_))
                · (try dsimp only)
                  exact z4
                clear hK K
                try simp only [Act.put, List.setIfInBounds_toArray, List.set_cons_zero, List.set_cons_succ]
                refine wpAnyH_ready (rs := [15]) (by kernel_rfl) (by simp) ?_
                refine AllReadyH.cons (o := { dst := some 48, op := Op.call { callee := Callee.builtin Builtin.append, args := #[Operand.tmp 34, Operand.tmp 47], argTypes := #[22, 22] }, type := 22, pos := "msg.go:67", after := _, guard := none }) rfl (fun K hK => ?_) ?_
                · refine step_pushE1 (by rfl) _ _ (by rfl) (by rfl) ⟨i2, na, pd, x.length, cd⟩ (by rfl) (by rfl) (by rfl) hE6 HB6.out HL6.out ?_
                  intro v9 w9 ho9 hg9 he9
                  obtain ⟨p9, n9, c9, rfl⟩ := ho9.ecs.sl
                  have HR9 := hide (show OwnEns (w10.heap.size + 1) w9 (.slice p9 n9 c9) (L ++ [⟨i2, na, x⟩]) from ⟨_, ho9, hD6.push (e := ⟨i2, na, pd, x.length, cd⟩) (x := ⟨i2, na, x⟩) rfl rfl HX6.out HF6.out ⟨HI3.out, HFI.out⟩ hg9 he9⟩)
                  have HP9 := hide (HR6.out.put hg9 HR9.out)
                  obtain ⟨⟨m10, mf10⟩, m4⟩ := And.intro (HR6.out.cellPut hg9) (HR6.out.cellPut4 hg9)
                  have s4 := HP9.out.cell 4 rfl
                  rw [hbm] at m10 mf10 m4 s4
                  clear ho9 hg9 he9
                  first
                    | refine hK.out _ _ ?_ (fun hHeld => ?_)
                    | (go_wp2_with fail; refine hK.out _ _ ?_ (fun hHeld => ?_))
                  · (try dsimp only)
                    exact m4
                  clear hK K
                  try simp only [Act.put, List.setIfInBounds_toArray, List.set_cons_zero, List.set_cons_succ]
                  refine wpAnyH_take (i := 16) (oi := { dst := some 49, op := Op.fieldAddr 26 (Operand.tmp 4) 10, type := 0, pos := "msg.go:67", after := _, guard := none }) (v := ?_) rfl (by kernel_rfl) (by kernel_rfl) (by kernel_rfl) (fun _ _ _ h => h) (Or.inl ⟨by rfl, ?_⟩) (by assumption) ?_
                  rotate_left
                  · intro w hSw
                    (try dsimp only at hSw)
                    go_simp
                    try with_reducible rfl
                  try simp only [Act.put, List.setIfInBounds_toArray, List.set_cons_zero, List.set_cons_succ]
                  refine wpAnyH_ready (rs := [17]) (by kernel_rfl) (by simp) ?_
                  refine AllReadyH.cons (o := { dst := none, op := Op.store 22 (Operand.tmp 49) (Operand.tmp 48), type := 0, pos := "msg.go:67", after := _, guard := none }) rfl (fun K hK => ?_) ?_
                  · go_simp
                    first
                      | refine hK.out _ _ ?_ (fun hHeld => ?_)
                      | (go_wp2_with fail; refine hK.out _ _ ?_ (fun hHeld => ?_))
                    · (try dsimp only)
                      exact s4
                    clear hK K
                    try simp only [Act.put, List.setIfInBounds_toArray, List.set_cons_zero, List.set_cons_succ]
                    refine wpAnyH_done (by kernel_rfl) ?_ _
                    go_wp2
                    go_roundw
                    case rel =>
                      refine ⟨k + 1, .slice p9 n9 c9, by omega, by go_num, hide ?_⟩
                      rw [HSUC.out, ← HI2.out]
                      have := HP9.out
                      rw [hbm] at this
                      exact this
                    case measure => simp [intOf]; omega
                  exact AllReadyH.nil
                exact AllReadyH.nil
              exact AllReadyH.nil
            exact AllReadyH.nil
          exact AllReadyH.nil
        refine AllReadyH.cons (o := { dst := some 43, op := Op.call { callee := Callee.value (Operand.func 83), args := #[Operand.tmp 42], argTypes := #[111] }, type := 3, pos := "msg.go:67", after := _, guard := none }) rfl (fun K hK => ?_) ?_
        · go_simp
          refine (HN1.out 1).mono ?_
          rintro e w5 ⟨rfl, hs5, hg5⟩
          have HR5 := hide ((HR.out.drewN 1).call (st' := (aa, Ea)) hs5 hg5)
          have f10 := HR5.out.cell 10 rfl
          have f4 := HR5.out.cell 4 rfl
          rw [hbm] at f10 f4
          have HT1 := hide (HT0.out w5 HR5.out)
          clear hs5 hg5
          first
            | refine hK.out _ _ ?_ (fun hHeld => ?_)
            | (go_wp2_with fail; refine hK.out _ _ ?_ (fun hHeld => ?_))
          · (try dsimp only)
            exact f4
          clear hK K
          try simp only [Act.put, List.setIfInBounds_toArray, List.set_cons_zero, List.set_cons_succ]
          refine wpAnyH_ready (rs := [6, 12]) (by kernel_rfl) (by simp) ?_
          refine AllReadyH.cons (o := { dst := some 39, op := Op.load 22 (Operand.tmp 38), type := 22, pos := "msg.go:67", after := _, guard := none }) rfl (fun K hK => ?_) ?_
          · go_simp
            first
              | refine hK.out _ _ ?_ (fun hHeld => ?_)
              | (go_wp2_with fail; refine hK.out _ _ ?_ (fun hHeld => ?_))
            · (try dsimp only)
              first | assumption | go_keep
            clear hK K
            try simp only [Act.put, List.setIfInBounds_toArray, List.set_cons_zero, List.set_cons_succ]
            refine wpAnyH_take (i := 7) (oi := { dst := some 40, op := Op.call { callee := Callee.builtin Builtin.len, args := #[Operand.tmp 39], argTypes := #[22] }, type := 3, pos := "msg.go:67", after := _, guard := none }) (v := ?_) rfl (by kernel_rfl) (by kernel_rfl) (by kernel_rfl) (fun _ _ _ h => h) (Or.inl ⟨by rfl, ?_⟩) (by assumption) ?_
            rotate_left
            · intro w hSw
              (try dsimp only at hSw)
              go_simp
              try with_reducible rfl
            try simp only [Act.put, List.setIfInBounds_toArray, List.set_cons_zero, List.set_cons_succ]
            refine wpAnyH_take (i := 8) (oi := { dst := some 41, op := Op.binOp BinOp.add 3 (Operand.tmp 37) (Operand.tmp 40) 3, type := 3, pos := "msg.go:67", after := _, guard := none }) (v := ?_) rfl (by kernel_rfl) (by kernel_rfl) (by kernel_rfl) (fun _ _ _ h => h) (Or.inl ⟨by rfl, ?_⟩) (by assumption) ?_
            rotate_left
            · intro w hSw
              (try dsimp only at hSw)
              go_simp
              try with_reducible rfl
            try simp only [Act.put, List.setIfInBounds_toArray, List.set_cons_zero, List.set_cons_succ]
            refine wpAnyH_ready (rs := [12]) (by kernel_rfl) (by simp) ?_
            refine AllReadyH.cons (o := { dst := some 45, op := Op.call { callee := Callee.value (Operand.func 85), args := #[Operand.tmp 44], argTypes := #[111] }, type := 24, pos := "msg.go:67", after := _, guard := none }) rfl (fun K hK => ?_) ?_
            · go_simp
              refine HT1.out.mono ?_
              rintro e w6 ⟨v6, rfl, ho6, hs6, hg6⟩
              obtain ⟨pd, cd, rfl⟩ := ho6.by_.shape
              have HR6 := hide (HR5.out.call (st' := (ax, Ex)) hs6 hg6)
              have e10 := HR6.out.cell 10 rfl
              have e4 := HR6.out.cell 4 rfl
              rw [hbm] at e10 e4
              have z10 := Lib.cell?_alloc_some (.cells #[.int .i64 i2, .int .i64 na, .slice pd x.length cd] 70) e10
              have z4 := Lib.cell?_alloc_some (.cells #[.int .i64 i2, .int .i64 na, .slice pd x.length cd] 70) e4
              obtain ⟨E6, hE6, hD6⟩ := HR6.out.es
              have HX6 := hide (ho6.mono (B' := w10.heap.size + 1) (by have := HR5.out.lt; omega))
              have HF6 : Hid (Far ⟨i2, na, pd, x.length, cd⟩ (.slice pe ne ce)) := hide (far_new ho6 HR5.out.es)
              have HB6 : Hid (w10.heap.size + 1 ≤ w6.heap.size) := hide (by have := HR6.out.lt; omega)
              have HL6 : Hid (E6.length ≤ 1000000) := hide (by have := hD6.1; have := HSL.out.2; omega)
              clear ho6 hs6 hg6
              first
                | refine hK.out _ _ ?_ (fun hHeld => ?_)
                | (go_wp2_with fail; refine hK.out _ _ ?_ (fun hHeld => ?_))
              · (try dsimp only)
                exact e4
              clear hK K
              try simp only [Act.put, List.setIfInBounds_toArray, List.set_cons_zero, List.set_cons_succ]
              refine wpAnyH_take (i := 13) (oi := { dst := some 46, op := Op.build 70 #[(0, Operand.tmp 41), (1, Operand.tmp 43), (2, Operand.tmp 45)], type := 70, pos := "msg.go:67", after := _, guard := none }) (v := ?_) rfl (by kernel_rfl) (by kernel_rfl) (by kernel_rfl) (fun _ _ _ h => h) (Or.inl ⟨by rfl, ?_⟩) (by assumption) ?_
              rotate_left
              · intro w hSw
                (try dsimp only at hSw)
                go_simp
                try with_reducible rfl
              try simp only [Act.put, List.setIfInBounds_toArray, List.set_cons_zero, List.set_cons_succ]
              refine wpAnyH_ready (rs := [14]) (by kernel_rfl) (by simp) ?_
              refine AllReadyH.cons (o := { dst := some 47, op := Op.buildSlice 22 1 #[(0, Operand.tmp 46)], type := 22, pos := "msg.go:67", after := _, guard := none }) rfl (fun K hK => ?_) ?_
              · go_simp
                first
                  | refine hK.out _ _ ?_ (fun hHeld => ?_)
                  | (go_wp2_with fail; refine hK.out _ _ ?_ (fun hHeld => ?_))
                · (try dsimp only)
                  exact z4
                clear hK K
                try simp only [Act.put, List.setIfInBounds_toArray, List.set_cons_zero, List.set_cons_succ]
                refine wpAnyH_ready (rs := [15]) (by kernel_rfl) (by simp) ?_
                refine AllReadyH.cons (o := { dst := some 48, op := Op.call { callee := Callee.builtin Builtin.append, args := #[Operand.tmp 34, Operand.tmp 47], argTypes := #[22, 22] }, type := 22, pos := "msg.go:67", after := _, guard := none }) rfl (fun K hK => ?_) ?_
                · refine step_pushE1 (by rfl) _ _ (by rfl) (by rfl) ⟨i2, na, pd, x.length, cd⟩ (by rfl) (by rfl) (by rfl) hE6 HB6.out HL6.out ?_
                  intro v9 w9 ho9 hg9 he9
                  obtain ⟨p9, n9, c9, rfl⟩ := ho9.ecs.sl
                  have HR9 := hide (show OwnEns (w10.heap.size + 1) w9 (.slice p9 n9 c9) (L ++ [⟨i2, na, x⟩]) from ⟨_, ho9, hD6.push (e := ⟨i2, na, pd, x.length, cd⟩) (x := ⟨i2, na, x⟩) rfl rfl HX6.out HF6.out ⟨HI3.out, HFI.out⟩ hg9 he9⟩)
                  have HP9 := hide (HR6.out.put hg9 HR9.out)
                  obtain ⟨⟨m10, mf10⟩, m4⟩ := And.intro (HR6.out.cellPut hg9) (HR6.out.cellPut4 hg9)
                  have s4 := HP9.out.cell 4 rfl
                  rw [hbm] at m10 mf10 m4 s4
                  clear ho9 hg9 he9
                  first
                    | refine hK.out _ _ ?_ (fun hHeld => ?_)
                    | (go_wp2_with fail; refine hK.out _ _ ?_ (fun hHeld => ?_))
                  · (try dsimp only)
                    exact m4
                  clear hK K
                  try simp only [Act.put, List.setIfInBounds_toArray, List.set_cons_zero, List.set_cons_succ]
                  refine wpAnyH_take (i := 16) (oi := { dst := some 49, op := Op.fieldAddr 26 (Operand.tmp 4) 10, type := 0, pos := "msg.go:67", after := _, guard := none }) (v := ?_) rfl (by kernel_rfl) (by kernel_rfl) (by kernel_rfl) (fun _ _ _ h => h) (Or.inl ⟨by rfl, ?_⟩) (by assumption) ?_
                  rotate_left
                  · intro w hSw
                    (try dsimp only at hSw)
                    go_simp
                    try with_reducible rfl
                  try simp only [Act.put, List.setIfInBounds_toArray, List.set_cons_zero, List.set_cons_succ]
                  refine wpAnyH_ready (rs := [17]) (by kernel_rfl) (by simp) ?_
                  refine AllReadyH.cons (o := { dst := none, op := Op.store 22 (Operand.tmp 49) (Operand.tmp 48), type := 0, pos := "msg.go:67", after := _, guard := none }) rfl (fun K hK => ?_) ?_
                  · go_simp
                    first
                      | refine hK.out _ _ ?_ (fun hHeld => ?_)
                      | (go_wp2_with fail; refine hK.out _ _ ?_ (fun hHeld => ?_))
                    · (try dsimp only)
                      exact s4
                    clear hK K
                    try simp only [Act.put, List.setIfInBounds_toArray, List.set_cons_zero, List.set_cons_succ]
                    refine wpAnyH_done (by kernel_rfl) ?_ _
                    go_wp2
                    go_roundw
                    case rel =>
                      refine ⟨k + 1, .slice p9 n9 c9, by omega, by go_num, hide ?_⟩
                      rw [HSUC.out, ← HI2.out]
                      have := HP9.out
                      rw [hbm] at this
                      exact this
                    case measure => simp [intOf]; omega
                  exact AllReadyH.nil
                exact AllReadyH.nil
              exact AllReadyH.nil
            exact AllReadyH.nil
          refine AllReadyH.cons (o := { dst := some 45, op := Op.call { callee := Callee.value (Operand.func 85), args := #[Operand.tmp 44], argTypes := #[111] }, type := 24, pos := "msg.go:67", after := _, guard := none }) rfl (fun K hK => ?_) ?_
          · go_simp
            refine HT1.out.mono ?_
            rintro e w6 ⟨v6, rfl, ho6, hs6, hg6⟩
            obtain ⟨pd, cd, rfl⟩ := ho6.by_.shape
            have HR6 := hide (HR5.out.call (st' := (ax, Ex)) hs6 hg6)
            have e10 := HR6.out.cell 10 rfl
            have e4 := HR6.out.cell 4 rfl
            rw [hbm] at e10 e4
            have z10 := Lib.cell?_alloc_some (.cells #[.int .i64 i2, .int .i64 na, .slice pd x.length cd] 70) e10
            have z4 := Lib.cell?_alloc_some (.cells #[.int .i64 i2, .int .i64 na, .slice pd x.length cd] 70) e4
            obtain ⟨E6, hE6, hD6⟩ := HR6.out.es
            have HX6 := hide (ho6.mono (B' := w10.heap.size + 1) (by have := HR5.out.lt; omega))
            have HF6 : Hid (Far ⟨i2, na, pd, x.length, cd⟩ (.slice pe ne ce)) := hide (far_new ho6 HR5.out.es)
            have HB6 : Hid (w10.heap.size + 1 ≤ w6.heap.size) := hide (by have := HR6.out.lt; omega)
            have HL6 : Hid (E6.length ≤ 1000000) := hide (by have := hD6.1; have := HSL.out.2; omega)
            clear ho6 hs6 hg6
            first
              | refine hK.out _ _ ?_ (fun hHeld => ?_)
              | (go_wp2_with fail; refine hK.out _ _ ?_ (fun hHeld => ?_))
            · (try dsimp only)
              exact e4
            clear hK K
            try simp only [Act.put, List.setIfInBounds_toArray, List.set_cons_zero, List.set_cons_succ]
            refine wpAnyH_ready (rs := [6]) (by kernel_rfl) (by simp) ?_
            refine AllReadyH.cons (o := { dst := some 39, op := Op.load 22 (Operand.tmp 38), type := 22, pos := "msg.go:67", after := _, guard := none }) rfl (fun K hK => ?_) ?_
            · go_simp
              first
                | refine hK.out _ _ ?_ (fun hHeld => ?_)
                | (go_wp2_with fail; refine hK.out _ _ ?_ (fun hHeld => ?_))
              · (try dsimp only)
                first | assumption | go_keep
              clear hK K
              try simp only [Act.put, List.setIfInBounds_toArray, List.set_cons_zero, List.set_cons_succ]
              refine wpAnyH_take (i := 7) (oi := { dst := some 40, op := Op.call { callee := Callee.builtin Builtin.len, args := #[Operand.tmp 39], argTypes := #[22] }, type := 3, pos := "msg.go:67", after := _, guard := none }) (v := ?_) rfl (by kernel_rfl) (by kernel_rfl) (by kernel_rfl) (fun _ _ _ h => h) (Or.inl ⟨by rfl, ?_⟩) (by assumption) ?_
              rotate_left
              · intro w hSw
                (try dsimp only at hSw)
                go_simp
                try with_reducible rfl
              try simp only [Act.put, List.setIfInBounds_toArray, List.set_cons_zero, List.set_cons_succ]
              refine wpAnyH_take (i := 8) (oi := { dst := some 41, op := Op.binOp BinOp.add 3 (Operand.tmp 37) (Operand.tmp 40) 3, type := 3, pos := "msg.go:67", after := _, guard := none }) (v := ?_) rfl (by kernel_rfl) (by kernel_rfl) (by kernel_rfl) (fun _ _ _ h => h) (Or.inl ⟨by rfl, ?_⟩) (by assumption) ?_
              rotate_left
              · intro w hSw
                (try dsimp only at hSw)
                go_simp
                try with_reducible rfl
              try simp only [Act.put, List.setIfInBounds_toArray, List.set_cons_zero, List.set_cons_succ]
              refine wpAnyH_take (i := 13) (oi := { dst := some 46, op := Op.build 70 #[(0, Operand.tmp 41), (1, Operand.tmp 43), (2, Operand.tmp 45)], type := 70, pos := "msg.go:67", after := _, guard := none }) (v := ?_) rfl (by kernel_rfl) (by kernel_rfl) (by kernel_rfl) (fun _ _ _ h => h) (Or.inl ⟨by rfl, ?_⟩) (by assumption) ?_
              rotate_left
              · intro w hSw
                (try dsimp only at hSw)
                go_simp
                try with_reducible rfl
              try simp only [Act.put, List.setIfInBounds_toArray, List.set_cons_zero, List.set_cons_succ]
              refine wpAnyH_ready (rs := [14]) (by kernel_rfl) (by simp) ?_
              refine AllReadyH.cons (o := { dst := some 47, op := Op.buildSlice 22 1 #[(0, Operand.tmp 46)], type := 22, pos := "msg.go:67", after := _, guard := none }) rfl (fun K hK => ?_) ?_
              · go_simp
                first
                  | refine hK.out _ _ ?_ (fun hHeld => ?_)
                  | (go_wp2_with fail; refine hK.out _ _ ?_ (fun hHeld => ?_))
                · (try dsimp only)
                  exact z4
                clear hK K
                try simp only [Act.put, List.setIfInBounds_toArray, List.set_cons_zero, List.set_cons_succ]
                refine wpAnyH_ready (rs := [15]) (by kernel_rfl) (by simp) ?_
                refine AllReadyH.cons (o := { dst := some 48, op := Op.call { callee := Callee.builtin Builtin.append, args := #[Operand.tmp 34, Operand.tmp 47], argTypes := #[22, 22] }, type := 22, pos := "msg.go:67", after := _, guard := none }) rfl (fun K hK => ?_) ?_
                · refine step_pushE1 (by rfl) _ _ (by rfl) (by rfl) ⟨i2, na, pd, x.length, cd⟩ (by rfl) (by rfl) (by rfl) hE6 HB6.out HL6.out ?_
                  intro v9 w9 ho9 hg9 he9
                  obtain ⟨p9, n9, c9, rfl⟩ := ho9.ecs.sl
                  have HR9 := hide (show OwnEns (w10.heap.size + 1) w9 (.slice p9 n9 c9) (L ++ [⟨i2, na, x⟩]) from ⟨_, ho9, hD6.push (e := ⟨i2, na, pd, x.length, cd⟩) (x := ⟨i2, na, x⟩) rfl rfl HX6.out HF6.out ⟨HI3.out, HFI.out⟩ hg9 he9⟩)
                  have HP9 := hide (HR6.out.put hg9 HR9.out)
                  obtain ⟨⟨m10, mf10⟩, m4⟩ := And.intro (HR6.out.cellPut hg9) (HR6.out.cellPut4 hg9)
                  have s4 := HP9.out.cell 4 rfl
                  rw [hbm] at m10 mf10 m4 s4
                  clear ho9 hg9 he9
                  first
                    | refine hK.out _ _ ?_ (fun hHeld => ?_)
                    | (go_wp2_with fail; refine hK.out _ _ ?_ (fun hHeld => ?_))
                  · (try dsimp only)
                    exact m4
                  clear hK K
                  try simp only [Act.put, List.setIfInBounds_toArray, List.set_cons_zero, List.set_cons_succ]
                  refine wpAnyH_take (i := 16) (oi := { dst := some 49, op := Op.fieldAddr 26 (Operand.tmp 4) 10, type := 0, pos := "msg.go:67", after := _, guard := none }) (v := ?_) rfl (by kernel_rfl) (by kernel_rfl) (by kernel_rfl) (fun _ _ _ h => h) (Or.inl ⟨by rfl, ?_⟩) (by assumption) ?_
                  rotate_left
                  · intro w hSw
                    (try dsimp only at hSw)
                    go_simp
                    try with_reducible rfl
                  try simp only [Act.put, List.setIfInBounds_toArray, List.set_cons_zero, List.set_cons_succ]
                  refine wpAnyH_ready (rs := [17]) (by kernel_rfl) (by simp) ?_
                  refine AllReadyH.cons (o := { dst := none, op := Op.store 22 (Operand.tmp 49) (Operand.tmp 48), type := 0, pos := "msg.go:67", after := _, guard := none }) rfl (fun K hK => ?_) ?_
                  · go_simp
                    first
                      | refine hK.out _ _ ?_ (fun hHeld => ?_)
                      | (go_wp2_with fail; refine hK.out _ _ ?_ (fun hHeld => ?_))
                    · (try dsimp only)
                      exact s4
                    clear hK K
                    try simp only [Act.put, List.setIfInBounds_toArray, List.set_cons_zero, List.set_cons_succ]
                    refine wpAnyH_done (by kernel_rfl) ?_ _
                    go_wp2
                    go_roundw
                    case rel =>
                      refine ⟨k + 1, .slice p9 n9 c9, by omega, by go_num, hide ?_⟩
                      rw [HSUC.out, ← HI2.out]
                      have := HP9.out
                      rw [hbm] at this
                      exact this
                    case measure => simp [intOf]; omega
                  exact AllReadyH.nil
                exact AllReadyH.nil
              exact AllReadyH.nil
            exact AllReadyH.nil
          exact AllReadyH.nil
        exact AllReadyH.nil
      refine AllReadyH.cons (o := { dst := some 39, op := Op.load 22 (Operand.tmp 38), type := 22, pos := "msg.go:67", after := _, guard := none }) rfl (fun K hK => ?_) ?_
      · go_simp
        first
          | refine hK.out _ _ ?_ (fun hHeld => ?_)
          | (go_wp2_with fail; refine hK.out _ _ ?_ (fun hHeld => ?_))
        · (try dsimp only)
          first | assumption | go_keep
        clear hK K
        try simp only [Act.put, List.setIfInBounds_toArray, List.set_cons_zero, List.set_cons_succ]
        refine wpAnyH_take (i := 7) (oi := { dst := some 40, op := Op.call { callee := Callee.builtin Builtin.len, args := #[Operand.tmp 39], argTypes := #[22] }, type := 3, pos := "msg.go:67", after := _, guard := none }) (v := ?_) rfl (by kernel_rfl) (by kernel_rfl) (by kernel_rfl) (fun _ _ _ h => h) (Or.inl ⟨by rfl, ?_⟩) (by assumption) ?_
        rotate_left
        · intro w hSw
          (try dsimp only at hSw)
          go_simp
          try with_reducible rfl
        try simp only [Act.put, List.setIfInBounds_toArray, List.set_cons_zero, List.set_cons_succ]
        refine wpAnyH_take (i := 8) (oi := { dst := some 41, op := Op.binOp BinOp.add 3 (Operand.tmp 37) (Operand.tmp 40) 3, type := 3, pos := "msg.go:67", after := _, guard := none }) (v := ?_) rfl (by kernel_rfl) (by kernel_rfl) (by kernel_rfl) (fun _ _ _ h => h) (Or.inl ⟨by rfl, ?_⟩) (by assumption) ?_
        rotate_left
        · intro w hSw
          (try dsimp only at hSw)
          go_simp
          try with_reducible rfl
        try simp only [Act.put, List.setIfInBounds_toArray, List.set_cons_zero, List.set_cons_succ]
        refine wpAnyH_ready (rs := [1, 10]) (by kernel_rfl) (by simp) ?_
        refine AllReadyH.cons (o := { dst := some 34, op := Op.load 22 (Operand.tmp 33), type := 22, pos := "msg.go:67", after := _, guard := none }) rfl (fun K hK => ?_) ?_
        · go_simp
          first
            | refine hK.out _ _ ?_ (fun hHeld => ?_)
            | (go_wp2_with fail; refine hK.out _ _ ?_ (fun hHeld => ?_))
          · (try dsimp only)
            first | assumption | go_keep
          clear hK K
          try simp only [Act.put, List.setIfInBounds_toArray, List.set_cons_zero, List.set_cons_succ]
          refine wpAnyH_ready (rs := [10]) (by kernel_rfl) (by simp) ?_
          refine AllReadyH.cons (o := { dst := some 43, op := Op.call { callee := Callee.value (Operand.func 83), args := #[Operand.tmp 42], argTypes := #[111] }, type := 3, pos := "msg.go:67", after := _, guard := none }) rfl (fun K hK => ?_) ?_
          · go_simp
            refine (HN1.out 1).mono ?_
            rintro e w5 ⟨rfl, hs5, hg5⟩
            have HR5 := hide ((HR.out.drewN 1).call (st' := (aa, Ea)) hs5 hg5)
            have f10 := HR5.out.cell 10 rfl
            have f4 := HR5.out.cell 4 rfl
            rw [hbm] at f10 f4
            have HT1 := hide (HT0.out w5 HR5.out)
            clear hs5 hg5
            first
              | refine hK.out _ _ ?_ (fun hHeld => ?_)
              | (go_wp2_with fail; refine hK.out _ _ ?_ (fun hHeld => ?_))
            · (try dsimp only)
              exact f4
            clear hK K
            try simp only [Act.put, List.setIfInBounds_toArray, List.set_cons_zero, List.set_cons_succ]
            refine wpAnyH_ready (rs := [12]) (by kernel_rfl) (by simp) ?_
            refine AllReadyH.cons (o := { dst := some 45, op := Op.call { callee := Callee.value (Operand.func 85), args := #[Operand.tmp 44], argTypes := #[111] }, type := 24, pos := "msg.go:67", after := _, guard := none }) rfl (fun K hK => ?_) ?_
            · go_simp
              refine HT1.out.mono ?_
              rintro e w6 ⟨v6, rfl, ho6, hs6, hg6⟩
              obtain ⟨pd, cd, rfl⟩ := ho6.by_.shape
              have HR6 := hide (HR5.out.call (st' := (ax, Ex)) hs6 hg6)
              have e10 := HR6.out.cell 10 rfl
              have e4 := HR6.out.cell 4 rfl
              rw [hbm] at e10 e4
              have z10 := Lib.cell?_alloc_some (.cells #[.int .i64 i2, .int .i64 na, .slice pd x.length cd] 70) e10
              have z4 := Lib.cell?_alloc_some (.cells #[.int .i64 i2, .int .i64 na, .slice pd x.length cd] 70) e4
              obtain ⟨E6, hE6, hD6⟩ := HR6.out.es
              have HX6 := hide (ho6.mono (B' := w10.heap.size + 1) (by have := HR5.out.lt; omega))
              have HF6 : Hid (Far ⟨i2, na, pd, x.length, cd⟩ (.slice pe ne ce)) := hide (far_new ho6 HR5.out.es)
              have HB6 : Hid (w10.heap.size + 1 ≤ w6.heap.size) := hide (by have := HR6.out.lt; omega)
              have HL6 : Hid (E6.length ≤ 1000000) := hide (by have := hD6.1; have := HSL.out.2; omega)
              clear ho6 hs6 hg6
              first
                | refine hK.out _ _ ?_ (fun hHeld => ?_)
                | (go_wp2_with fail; refine hK.out _ _ ?_ (fun hHeld => ?_))
              · (try dsimp only)
                exact e4
              clear hK K
              try simp only [Act.put, List.setIfInBounds_toArray, List.set_cons_zero, List.set_cons_succ]
              refine wpAnyH_take (i := 13) (oi := { dst := some 46, op := Op.build 70 #[(0, Operand.tmp 41), (1, Operand.tmp 43), (2, Operand.tmp 45)], type := 70, pos := "msg.go:67", after := _, guard := none }) (v := ?_) rfl (by kernel_rfl) (by kernel_rfl) (by kernel_rfl) (fun _ _ _ h => h) (Or.inl ⟨by rfl, ?_⟩) (by assumption) ?_
              rotate_left
              · intro w hSw
                (try dsimp only at hSw)
                go_simp
                try with_reducible rfl
              try simp only [Act.put, List.setIfInBounds_toArray, List.set_cons_zero, List.set_cons_succ]
              refine wpAnyH_ready (rs := [14]) (by kernel_rfl) (by simp) ?_
              refine AllReadyH.cons (o := { dst := some 47, op := Op.buildSlice 22 1 #[(0, Operand.tmp 46)], type := 22, pos := "msg.go:67", after := _, guard := none }) rfl (fun K hK => ?_) ?_
              · go_simp
                first
                  | refine hK.out _ _ ?_ (fun hHeld => ?_)
                  | (go_wp2_with fail; refine hK.out _ _ ?_ (fun hHeld => ?_))
                · (try dsimp only)
                  exact z4
                clear hK K
                try simp only [Act.put, List.setIfInBounds_toArray, List.set_cons_zero, List.set_cons_succ]
                refine wpAnyH_ready (rs := [15]) (by kernel_rfl) (by simp) ?_
                refine AllReadyH.cons (o := { dst := some 48, op := Op.call { callee := Callee.builtin Builtin.append, args := #[Operand.tmp 34, Operand.tmp 47], argTypes := #[22, 22] }, type := 22, pos := "msg.go:67", after := _, guard := none }) rfl (fun K hK => ?_) ?_
                · refine step_pushE1 (by rfl) _ _ (by rfl) (by rfl) ⟨i2, na, pd, x.length, cd⟩ (by rfl) (by rfl) (by rfl) hE6 HB6.out HL6.out ?_
                  intro v9 w9 ho9 hg9 he9
                  obtain ⟨p9, n9, c9, rfl⟩ := ho9.ecs.sl
                  have HR9 := hide (show OwnEns (w10.heap.size + 1) w9 (.slice p9 n9 c9) (L ++ [⟨i2, na, x⟩]) from ⟨_, ho9, hD6.push (e := ⟨i2, na, pd, x.length, cd⟩) (x := ⟨i2, na, x⟩) rfl rfl HX6.out HF6.out ⟨HI3.out, HFI.out⟩ hg9 he9⟩)
                  have HP9 := hide (HR6.out.put hg9 HR9.out)
                  obtain ⟨⟨m10, mf10⟩, m4⟩ := And.intro (HR6.out.cellPut hg9) (HR6.out.cellPut4 hg9)
                  have s4 := HP9.out.cell 4 rfl
                  rw [hbm] at m10 mf10 m4 s4
                  clear ho9 hg9 he9
                  first
                    | refine hK.out _ _ ?_ (fun hHeld => ?_)
                    | (go_wp2_with fail; refine hK.out _ _ ?_ (fun hHeld => ?_))
                  · (try dsimp only)
                    exact m4
                  clear hK K
                  try simp only [Act.put, List.setIfInBounds_toArray, List.set_cons_zero, List.set_cons_succ]
                  refine wpAnyH_take (i := 16) (oi := { dst := some 49, op := Op.fieldAddr 26 (Operand.tmp 4) 10, type := 0, pos := "msg.go:67", after := _, guard := none }) (v := ?_) rfl (by kernel_rfl) (by kernel_rfl) (by kernel_rfl) (fun _ _ _ h => h) (Or.inl ⟨by rfl, ?_⟩) (by assumption) ?_
                  rotate_left
                  · intro w hSw
                    (try dsimp only at hSw)
                    go_simp
                    try with_reducible rfl
                  try simp only [Act.put, List.setIfInBounds_toArray, List.set_cons_zero, List.set_cons_succ]
                  refine wpAnyH_ready (rs := [17]) (by kernel_rfl) (by simp) ?_
                  refine AllReadyH.cons (o := { dst := none, op := Op.store 22 (Operand.tmp 49) (Operand.tmp 48), type := 0, pos := "msg.go:67", after := _, guard := none }) rfl (fun K hK => ?_) ?_
                  · go_simp
                    first
                      | refine hK.out _ _ ?_ (fun hHeld => ?_)
                      | (go_wp2_with fail; refine hK.out _ _ ?_ (fun hHeld => ?_))
                    · (try dsimp only)
                      exact s4
                    clear hK K
                    try simp only [Act.put, List.setIfInBounds_toArray, List.set_cons_zero, List.set_cons_succ]
                    refine wpAnyH_done (by kernel_rfl) ?_ _
                    go_wp2
                    go_roundw
                    case rel =>
                      refine ⟨k + 1, .slice p9 n9 c9, by omega, by go_num, hide ?_⟩
                      rw [HSUC.out, ← HI2.out]
                      have := HP9.out
                      rw [hbm] at this
                      exact this
                    case measure => simp [intOf]; omega
                  exact AllReadyH.nil
                exact AllReadyH.nil
              exact AllReadyH.nil
            exact AllReadyH.nil
          exact AllReadyH.nil
        refine AllReadyH.cons (o := { dst := some 43, op := Op.call { callee := Callee.value (Operand.func 83), args := #[Operand.tmp 42], argTypes := #[111] }, type := 3, pos := "msg.go:67", after := _, guard := none }) rfl (fun K hK => ?_) ?_
        · go_simp
          refine (HN1.out 1).mono ?_
          rintro e w5 ⟨rfl, hs5, hg5⟩
          have HR5 := hide ((HR.out.drewN 1).call (st' := (aa, Ea)) hs5 hg5)
          have f10 := HR5.out.cell 10 rfl
          have f4 := HR5.out.cell 4 rfl
          rw [hbm] at f10 f4
          have HT1 := hide (HT0.out w5 HR5.out)
          clear hs5 hg5
          first
            | refine hK.out _ _ ?_ (fun hHeld => ?_)
            | (go_wp2_with fail; refine hK.out _ _ ?_ (fun hHeld => ?_))
          · (try dsimp only)
            exact f4
          clear hK K
          try simp only [Act.put, List.setIfInBounds_toArray, List.set_cons_zero, List.set_cons_succ]
          refine wpAnyH_ready (rs := [1, 12]) (by kernel_rfl) (by simp) ?_
          refine AllReadyH.cons (o := { dst := some 34, op := Op.load 22 (Operand.tmp 33), type := 22, pos := "msg.go:67", after := _, guard := none }) rfl (fun K hK => ?_) ?_
          · go_simp
            first
              | refine hK.out _ _ ?_ (fun hHeld => ?_)
              | (go_wp2_with fail; refine hK.out _ _ ?_ (fun hHeld => ?_))
            · (try dsimp only)
              first | assumption | go_keep
            clear hK K
            try simp only [Act.put, List.setIfInBounds_toArray, List.set_cons_zero, List.set_cons_succ]
            refine wpAnyH_ready (rs := [12]) (by kernel_rfl) (by simp) ?_
            refine AllReadyH.cons (o := { dst := some 45, op := Op.call { callee := Callee.value (Operand.func 85), args := #[Operand.tmp 44], argTypes := #[111] }, type := 24, pos := "msg.go:67", after := _, guard := none }) rfl (fun K hK => ?_) ?_
            · go_simp
              refine HT1.out.mono ?_
              rintro e w6 ⟨v6, rfl, ho6, hs6, hg6⟩
              obtain ⟨pd, cd, rfl⟩ := ho6.by_.shape
              have HR6 := hide (HR5.out.call (st' := (ax, Ex)) hs6 hg6)
              have e10 := HR6.out.cell 10 rfl
              have e4 := HR6.out.cell 4 rfl
              rw [hbm] at e10 e4
              have z10 := Lib.cell?_alloc_some (.cells #[.int .i64 i2, .int .i64 na, .slice pd x.length cd] 70) e10
              have z4 := Lib.cell?_alloc_some (.cells #[.int .i64 i2, .int .i64 na, .slice pd x.length cd] 70) e4
              obtain ⟨E6, hE6, hD6⟩ := HR6.out.es
              have HX6 := hide (ho6.mono (B' := w10.heap.size + 1) (by have := HR5.out.lt; omega))
              have HF6 : Hid (Far ⟨i2, na, pd, x.length, cd⟩ (.slice pe ne ce)) := hide (far_new ho6 HR5.out.es)
              have HB6 : Hid (w10.heap.size + 1 ≤ w6.heap.size) := hide (by have := HR6.out.lt; omega)
              have HL6 : Hid (E6.length ≤ 1000000) := hide (by have := hD6.1; have := HSL.out.2; omega)
              clear ho6 hs6 hg6
              first
                | refine hK.out _ _ ?_ (fun hHeld => ?_)
                | (go_wp2_with fail; refine hK.out _ _ ?_ (fun hHeld => ?_))
              · (try dsimp only)
                exact e4
              clear hK K
              try simp only [Act.put, List.setIfInBounds_toArray, List.set_cons_zero, List.set_cons_succ]
              refine wpAnyH_take (i := 13) (oi := { dst := some 46, op := Op.build 70 #[(0, Operand.tmp 41), (1, Operand.tmp 43), (2, Operand.tmp 45)], type := 70, pos := "msg.go:67", after := _, guard := none }) (v := ?_) rfl (by kernel_rfl) (by kernel_rfl) (by kernel_rfl) (fun _ _ _ h => h) (Or.inl ⟨by rfl, ?_⟩) (by assumption) ?_
              rotate_left
              · intro w hSw
                (try dsimp only at hSw)
                go_simp
                try with_reducible rfl
              try simp only [Act.put, List.setIfInBounds_toArray, List.set_cons_zero, List.set_cons_succ]
              refine wpAnyH_ready (rs := [14]) (by kernel_rfl) (by simp) ?_
              refine AllReadyH.cons (o := { dst := some 47, op := Op.buildSlice 22 1 #[(0, Operand.tmp 46)], type := 22, pos := "msg.go:67", after := _, guard := none }) rfl (fun K hK => ?_) ?_
              · go_simp
                first
                  | refine hK.out _ _ ?_ (fun hHeld => ?_)
                  | (go_wp2_with fail; refine hK.out _ _ ?_ (fun hHeld => ?_))
                · (try dsimp only)
                  exact z4
                clear hK K
                try simp only [Act.put, List.setIfInBounds_toArray, List.set_cons_zero, List.set_cons_succ]
                refine wpAnyH_ready (rs := [15]) (by kernel_rfl) (by simp) ?_
                refine AllReadyH.cons (o := { dst := some 48, op := Op.call { callee := Callee.builtin Builtin.append, args := #[Operand.tmp 34, Operand.tmp 47], argTypes := #[22, 22] }, type := 22, pos := "msg.go:67", after := _, guard := none }) rfl (fun K hK => ?_) ?_
                · refine step_pushE1 (by rfl) _ _ (by rfl) (by rfl) ⟨i2, na, pd, x.length, cd⟩ (by rfl) (by rfl) (by rfl) hE6 HB6.out HL6.out ?_
                  intro v9 w9 ho9 hg9 he9
                  obtain ⟨p9, n9, c9, rfl⟩ := ho9.ecs.sl
                  have HR9 := hide (show OwnEns (w10.heap.size + 1) w9 (.slice p9 n9 c9) (L ++ [⟨i2, na, x⟩]) from ⟨_, ho9, hD6.push (e := ⟨i2, na, pd, x.length, cd⟩) (x := ⟨i2, na, x⟩) rfl rfl HX6.out HF6.out ⟨HI3.out, HFI.out⟩ hg9 he9⟩)
                  have HP9 := hide (HR6.out.put hg9 HR9.out)
                  obtain ⟨⟨m10, mf10⟩, m4⟩ := And.intro (HR6.out.cellPut hg9) (HR6.out.cellPut4 hg9)
                  have s4 := HP9.out.cell 4 rfl
                  rw [hbm] at m10 mf10 m4 s4
                  clear ho9 hg9 he9
                  first
                    | refine hK.out _ _ ?_ (fun hHeld => ?_)
                    | (go_wp2_with fail; refine hK.out _ _ ?_ (fun hHeld => ?_))
                  · (try dsimp only)
                    exact m4
                  clear hK K
                  try simp only [Act.put, List.setIfInBounds_toArray, List.set_cons_zero, List.set_cons_succ]
                  refine wpAnyH_take (i := 16) (oi := { dst := some 49, op := Op.fieldAddr 26 (Operand.tmp 4) 10, type := 0, pos := "msg.go:67", after := _, guard := none }) (v := ?_) rfl (by kernel_rfl) (by kernel_rfl) (by kernel_rfl) (fun _ _ _ h => h) (Or.inl ⟨by rfl, ?_⟩) (by assumption) ?_
                  rotate_left
                  · intro w hSw
                    (try dsimp only at hSw)
                    go_simp
                    try with_reducible rfl
                  try simp only [Act.put, List.setIfInBounds_toArray, List.set_cons_zero, List.set_cons_succ]
                  refine wpAnyH_ready (rs := [17]) (by kernel_rfl) (by simp) ?_
                  refine AllReadyH.cons (o := { dst := none, op := Op.store 22 (Operand.tmp 49) (Operand.tmp 48), type := 0, pos := "msg.go:67", after := _, guard := none }) rfl (fun K hK => ?_) ?_
                  · go_simp
                    first
                      | refine hK.out _ _ ?_ (fun hHeld => ?_)
                      | (go_wp2_with fail; refine hK.out _ _ ?_ (fun hHeld => ?_))
                    · (try dsimp only)
                      exact s4
                    clear hK K
                    try simp only [Act.put, List.setIfInBounds_toArray, List.set_cons_zero, List.set_cons_succ]
                    refine wpAnyH_done (by kernel_rfl) ?_ _
                    go_wp2
                    go_roundw
                    case rel =>
                      refine ⟨k + 1, .slice p9 n9 c9, by omega, by go_num, hide ?_⟩
                      rw [HSUC.out, ← HI2.out]
                      have := HP9.out
                      rw [hbm] at this
                      exact this
                    case measure => simp [intOf]; omega
                  exact AllReadyH.nil
                exact AllReadyH.nil
              exact AllReadyH.nil
            exact AllReadyH.nil
          refine AllReadyH.cons (o := { dst := some 45, op := Op.call { callee := Callee.value (Operand.func 85), args := #[Operand.tmp 44], argTypes := #[111] }, type := 24, pos := "msg.go:67", after := _, guard := none }) rfl (fun K hK => ?_) ?_
          · go_simp
            refine HT1.out.mono ?_
            rintro e w6 ⟨v6, rfl, ho6, hs6, hg6⟩
            obtain ⟨pd, cd, rfl⟩ := ho6.by_.shape
            have HR6 := hide (HR5.out.call (st' := (ax, Ex)) hs6 hg6)
            have e10 := HR6.out.cell 10 rfl
            have e4 := HR6.out.cell 4 rfl
            rw [hbm] at e10 e4
            have z10 := Lib.cell?_alloc_some (.cells #[.int .i64 i2, .int .i64 na, .slice pd x.length cd] 70) e10
            have z4 := Lib.cell?_alloc_some (.cells #[.int .i64 i2, .int .i64 na, .slice pd x.length cd] 70) e4
            obtain ⟨E6, hE6, hD6⟩ := HR6.out.es
            have HX6 := hide (ho6.mono (B' := w10.heap.size + 1) (by have := HR5.out.lt; omega))
            have HF6 : Hid (Far ⟨i2, na, pd, x.length, cd⟩ (.slice pe ne ce)) := hide (far_new ho6 HR5.out.es)
            have HB6 : Hid (w10.heap.size + 1 ≤ w6.heap.size) := hide (by have := HR6.out.lt; omega)
            have HL6 : Hid (E6.length ≤ 1000000) := hide (by have := hD6.1; have := HSL.out.2; omega)
            clear ho6 hs6 hg6
            first
              | refine hK.out _ _ ?_ (fun hHeld => ?_)
              | (go_wp2_with fail; refine hK.out _ _ ?_ (fun hHeld => ?_))
            · (try dsimp only)
              exact e4
            clear hK K
            try simp only [Act.put, List.setIfInBounds_toArray, List.set_cons_zero, List.set_cons_succ]
            refine wpAnyH_take (i := 13) (oi := { dst := some 46, op := Op.build 70 #[(0, Operand.tmp 41), (1, Operand.tmp 43), (2, Operand.tmp 45)], type := 70, pos := "msg.go:67", after := _, guard := none }) (v := ?_) rfl (by kernel_rfl) (by kernel_rfl) (by kernel_rfl) (fun _ _ _ h => h) (Or.inl ⟨by rfl, ?_⟩) (by assumption) ?_
            rotate_left
            · intro w hSw
              (try dsimp only at hSw)
              go_simp
              try with_reducible rfl
            try simp only [Act.put, List.setIfInBounds_toArray, List.set_cons_zero, List.set_cons_succ]
            refine wpAnyH_ready (rs := [1, 14]) (by kernel_rfl) (by simp) ?_
            refine AllReadyH.cons (o := { dst := some 34, op := Op.load 22 (Operand.tmp 33), type := 22, pos := "msg.go:67", after := _, guard := none }) rfl (fun K hK => ?_) ?_
            · go_simp
              first
                | refine hK.out _ _ ?_ (fun hHeld => ?_)
                | (go_wp2_with fail; refine hK.out _ _ ?_ (fun hHeld => ?_))
              · (try dsimp only)
                first | assumption | go_keep
              clear hK K
              try simp only [Act.put, List.setIfInBounds_toArray, List.set_cons_zero, List.set_cons_succ]
              refine wpAnyH_ready (rs := [14]) (by kernel_rfl) (by simp) ?_
              refine AllReadyH.cons (o := { dst := some 47, op := Op.buildSlice 22 1 #[(0, Operand.tmp 46)], type := 22, pos := "msg.go:67", after := _, guard := none }) rfl (fun K hK => ?_) ?_
              · go_simp
                first
                  | refine hK.out _ _ ?_ (fun hHeld => ?_)
                  | (go_wp2_with fail; refine hK.out _ _ ?_ (fun hHeld => ?_))
                · (try dsimp only)
                  exact z4
                clear hK K
                try simp only [Act.put, List.setIfInBounds_toArray, List.set_cons_zero, List.set_cons_succ]
                refine wpAnyH_ready (rs := [15]) (by kernel_rfl) (by simp) ?_
                refine AllReadyH.cons (o := { dst := some 48, op := Op.call { callee := Callee.builtin Builtin.append, args := #[Operand.tmp 34, Operand.tmp 47], argTypes := #[22, 22] }, type := 22, pos := "msg.go:67", after := _, guard := none }) rfl (fun K hK => ?_) ?_
                · refine step_pushE1 (by rfl) _ _ (by rfl) (by rfl) ⟨i2, na, pd, x.length, cd⟩ (by rfl) (by rfl) (by rfl) hE6 HB6.out HL6.out ?_
                  intro v9 w9 ho9 hg9 he9
                  obtain ⟨p9, n9, c9, rfl⟩ := ho9.ecs.sl
                  have HR9 := hide (show OwnEns (w10.heap.size + 1) w9 (.slice p9 n9 c9) (L ++ [⟨i2, na, x⟩]) from ⟨_, ho9, hD6.push (e := ⟨i2, na, pd, x.length, cd⟩) (x := ⟨i2, na, x⟩) rfl rfl HX6.out HF6.out ⟨HI3.out, HFI.out⟩ hg9 he9⟩)
                  have HP9 := hide (HR6.out.put hg9 HR9.out)
                  obtain ⟨⟨m10, mf10⟩, m4⟩ := And.intro (HR6.out.cellPut hg9) (HR6.out.cellPut4 hg9)
                  have s4 := HP9.out.cell 4 rfl
                  rw [hbm] at m10 mf10 m4 s4
                  clear ho9 hg9 he9
                  first
                    | refine hK.out _ _ ?_ (fun hHeld => ?_)
                    | (go_wp2_with fail; refine hK.out _ _ ?_ (fun hHeld => ?_))
                  · (try dsimp only)
                    exact m4
                  clear hK K
                  try simp only [Act.put, List.setIfInBounds_toArray, List.set_cons_zero, List.set_cons_succ]
                  refine wpAnyH_take (i := 16) (oi := { dst := some 49, op := Op.fieldAddr 26 (Operand.tmp 4) 10, type := 0, pos := "msg.go:67", after := _, guard := none }) (v := ?_) rfl (by kernel_rfl) (by kernel_rfl) (by kernel_rfl) (fun _ _ _ h => h) (Or.inl ⟨by rfl, ?_⟩) (by assumption) ?_
                  rotate_left
                  · intro w hSw
                    (try dsimp only at hSw)
                    go_simp
                    try with_reducible rfl
                  try simp only [Act.put, List.setIfInBounds_toArray, List.set_cons_zero, List.set_cons_succ]
                  refine wpAnyH_ready (rs := [17]) (by kernel_rfl) (by simp) ?_
                  refine AllReadyH.cons (o := { dst := none, op := Op.store 22 (Operand.tmp 49) (Operand.tmp 48), type := 0, pos := "msg.go:67", after := _, guard := none }) rfl (fun K hK => ?_) ?_
                  · go_simp
                    first
                      | refine hK.out _ _ ?_ (fun hHeld => ?_)
                      | (go_wp2_with fail; refine hK.out _ _ ?_ (fun hHeld => ?_))
                    · (try dsimp only)
                      exact s4
                    clear hK K
                    try simp only [Act.put, List.setIfInBounds_toArray, List.set_cons_zero, List.set_cons_succ]
                    refine wpAnyH_done (by kernel_rfl) ?_ _
                    go_wp2
                    go_roundw
                    case rel =>
                      refine ⟨k + 1, .slice p9 n9 c9, by omega, by go_num, hide ?_⟩
                      rw [HSUC.out, ← HI2.out]
                      have := HP9.out
                      rw [hbm] at this
                      exact this
                    case measure => simp [intOf]; omega
                  exact AllReadyH.nil
                exact AllReadyH.nil
              exact AllReadyH.nil
            refine AllReadyH.cons (o := { dst := some 47, op := Op.buildSlice 22 1 #[(0, Operand.tmp 46)], type := 22, pos := "msg.go:67", after := _, guard := none }) rfl (fun K hK => ?_) ?_
            · go_simp
              first
                | refine hK.out _ _ ?_ (fun hHeld => ?_)
                | (go_wp2_with fail; refine hK.out _ _ ?_ (fun hHeld => ?_))
              · (try dsimp only)
                exact z4
              clear hK K
              try simp only [Act.put, List.setIfInBounds_toArray, List.set_cons_zero, List.set_cons_succ]
              refine wpAnyH_ready (rs := [1]) (by kernel_rfl) (by simp) ?_
              refine AllReadyH.cons (o := { dst := some 34, op := Op.load 22 (Operand.tmp 33), type := 22, pos := "msg.go:67", after := _, guard := none }) rfl (fun K hK => ?_) ?_
              · go_simp
                first
                  | refine hK.out _ _ ?_ (fun hHeld => ?_)
                  | (go_wp2_with fail; refine hK.out _ _ ?_ (fun hHeld => ?_))
                · (try dsimp only)
                  first | assumption | go_keep
                clear hK K
                try simp only [Act.put, List.setIfInBounds_toArray, List.set_cons_zero, List.set_cons_succ]
                refine wpAnyH_ready (rs := [15]) (by kernel_rfl) (by simp) ?_
                refine AllReadyH.cons (o := { dst := some 48, op := Op.call { callee := Callee.builtin Builtin.append, args := #[Operand.tmp 34, Operand.tmp 47], argTypes := #[22, 22] }, type := 22, pos := "msg.go:67", after := _, guard := none }) rfl (fun K hK => ?_) ?_
                · refine step_pushE1 (by rfl) _ _ (by rfl) (by rfl) ⟨i2, na, pd, x.length, cd⟩ (by rfl) (by rfl) (by rfl) hE6 HB6.out HL6.out ?_
                  intro v9 w9 ho9 hg9 he9
                  obtain ⟨p9, n9, c9, rfl⟩ := ho9.ecs.sl
                  have HR9 := hide (show OwnEns (w10.heap.size + 1) w9 (.slice p9 n9 c9) (L ++ [⟨i2, na, x⟩]) from ⟨_, ho9, hD6.push (e := ⟨i2, na, pd, x.length, cd⟩) (x := ⟨i2, na, x⟩) rfl rfl HX6.out HF6.out ⟨HI3.out, HFI.out⟩ hg9 he9⟩)
                  have HP9 := hide (HR6.out.put hg9 HR9.out)
                  obtain ⟨⟨m10, mf10⟩, m4⟩ := And.intro (HR6.out.cellPut hg9) (HR6.out.cellPut4 hg9)
                  have s4 := HP9.out.cell 4 rfl
                  rw [hbm] at m10 mf10 m4 s4
                  clear ho9 hg9 he9
                  first
                    | refine hK.out _ _ ?_ (fun hHeld => ?_)
                    | (go_wp2_with fail; refine hK.out _ _ ?_ (fun hHeld => ?_))
                  · (try dsimp only)
                    exact m4
                  clear hK K
                  try simp only [Act.put, List.setIfInBounds_toArray, List.set_cons_zero, List.set_cons_succ]
                  refine wpAnyH_take (i := 16) (oi := { dst := some 49, op := Op.fieldAddr 26 (Operand.tmp 4) 10, type := 0, pos := "msg.go:67", after := _, guard := none }) (v := ?_) rfl (by kernel_rfl) (by kernel_rfl) (by kernel_rfl) (fun _ _ _ h => h) (Or.inl ⟨by rfl, ?_⟩) (by assumption) ?_
                  rotate_left
                  · intro w hSw
                    (try dsimp only at hSw)
                    go_simp
                    try with_reducible rfl
                  try simp only [Act.put, List.setIfInBounds_toArray, List.set_cons_zero, List.set_cons_succ]
                  refine wpAnyH_ready (rs := [17]) (by kernel_rfl) (by simp) ?_
                  refine AllReadyH.cons (o := { dst := none, op := Op.store 22 (Operand.tmp 49) (Operand.tmp 48), type := 0, pos := "msg.go:67", after := _, guard := none }) rfl (fun K hK => ?_) ?_
                  · go_simp
                    first
                      | refine hK.out _ _ ?_ (fun hHeld => ?_)
                      | (go_wp2_with fail; refine hK.out _ _ ?_ (fun hHeld => ?_))
                    · (try dsimp only)
                      exact s4
                    clear hK K
                    try simp only [Act.put, List.setIfInBounds_toArray, List.set_cons_zero, List.set_cons_succ]
                    refine wpAnyH_done (by kernel_rfl) ?_ _
                    go_wp2
                    go_roundw
                    case rel =>
                      refine ⟨k + 1, .slice p9 n9 c9, by omega, by go_num, hide ?_⟩
                      rw [HSUC.out, ← HI2.out]
                      have := HP9.out
                      rw [hbm] at this
                      exact this
                    case measure => simp [intOf]; omega
                  exact AllReadyH.nil
                exact AllReadyH.nil
              exact AllReadyH.nil
            exact AllReadyH.nil
          exact AllReadyH.nil
        exact AllReadyH.nil
      refine AllReadyH.cons (o := { dst := some 43, op := Op.call { callee := Callee.value (Operand.func 83), args := #[Operand.tmp 42], argTypes := #[111] }, type := 3, pos := "msg.go:67", after := _, guard := none }) rfl (fun K hK => ?_) ?_
      · go_simp
        refine (HN1.out 1).mono ?_
        rintro e w5 ⟨rfl, hs5, hg5⟩
        have HR5 := hide ((HR.out.drewN 1).call (st' := (aa, Ea)) hs5 hg5)
        have f10 := HR5.out.cell 10 rfl
        have f4 := HR5.out.cell 4 rfl
        rw [hbm] at f10 f4
        have HT1 := hide (HT0.out w5 HR5.out)
        clear hs5 hg5
        first
          | refine hK.out _ _ ?_ (fun hHeld => ?_)
          | (go_wp2_with fail; refine hK.out _ _ ?_ (fun hHeld => ?_))
        · (try dsimp only)
          exact f4
        clear hK K
        try simp only [Act.put, List.setIfInBounds_toArray, List.set_cons_zero, List.set_cons_succ]
        refine wpAnyH_ready (rs := [1, 6, 12]) (by kernel_rfl) (by simp) ?_
        refine AllReadyH.cons (o := { dst := some 34, op := Op.load 22 (Operand.tmp 33), type := 22, pos := "msg.go:67", after := _, guard := none }) rfl (fun K hK => ?_) ?_
        · go_simp
          first
            | refine hK.out _ _ ?_ (fun hHeld => ?_)
            | (go_wp2_with fail; refine hK.out _ _ ?_ (fun hHeld => ?_))
          · (try dsimp only)
            first | assumption | go_keep
          clear hK K
          try simp only [Act.put, List.setIfInBounds_toArray, List.set_cons_zero, List.set_cons_succ]
          refine wpAnyH_ready (rs := [6, 12]) (by kernel_rfl) (by simp) ?_
          refine AllReadyH.cons (o := { dst := some 39, op := Op.load 22 (Operand.tmp 38), type := 22, pos := "msg.go:67", after := _, guard := none }) rfl (fun K hK => ?_) ?_
          · go_simp
            first
              | refine hK.out _ _ ?_ (fun hHeld => ?_)
              | (go_wp2_with fail; refine hK.out _ _ ?_ (fun hHeld => ?_))
            · (try dsimp only)
              first | assumption | go_keep
            clear hK K
            try simp only [Act.put, List.setIfInBounds_toArray, List.set_cons_zero, List.set_cons_succ]
            refine wpAnyH_take (i := 7) (oi := { dst := some 40, op := Op.call { callee := Callee.builtin Builtin.len, args := #[Operand.tmp 39], argTypes := #[22] }, type := 3, pos := "msg.go:67", after := _, guard := none }) (v := ?_) rfl (by kernel_rfl) (by kernel_rfl) (by kernel_rfl) (fun _ _ _ h => h) (Or.inl ⟨by rfl, ?_⟩) (by assumption) ?_
            rotate_left
            · intro w hSw
              (try dsimp only at hSw)
              go_simp
              try with_reducible rfl
            try simp only [Act.put, List.setIfInBounds_toArray, List.set_cons_zero, List.set_cons_succ]
            refine wpAnyH_take (i := 8) (oi := { dst := some 41, op := Op.binOp BinOp.add 3 (Operand.tmp 37) (Operand.tmp 40) 3, type := 3, pos := "msg.go:67", after := _, guard := none }) (v := ?_) rfl (by kernel_rfl) (by kernel_rfl) (by kernel_rfl) (fun _ _ _ h => h) (Or.inl ⟨by rfl, ?_⟩) (by assumption) ?_
            rotate_left
            · intro w hSw
              (try dsimp only at hSw)
              go_simp
              try with_reducible rfl
            try simp only [Act.put, List.setIfInBounds_toArray, List.set_cons_zero, List.set_cons_succ]
            refine wpAnyH_ready (rs := [12]) (by kernel_rfl) (by simp) ?_
            refine AllReadyH.cons (o := { dst := some 45, op := Op.call { callee := Callee.value (Operand.func 85), args := #[Operand.tmp 44], argTypes := #[111] }, type := 24, pos := "msg.go:67", after := _, guard := none }) rfl (fun K hK => ?_) ?_
            · go_simp
              refine HT1.out.mono ?_
              rintro e w6 ⟨v6, rfl, ho6, hs6, hg6⟩
              obtain ⟨pd, cd, rfl⟩ := ho6.by_.shape
              have HR6 := hide (HR5.out.call (st' := (ax, Ex)) hs6 hg6)
              have e10 := HR6.out.cell 10 rfl
              have e4 := HR6.out.cell 4 rfl
              rw [hbm] at e10 e4
              have z10 := Lib.cell?_alloc_some (.cells #[.int .i64 i2, .int .i64 na, .slice pd x.length cd] 70) e10
              have z4 := Lib.cell?_alloc_some (.cells #[.int .i64 i2, .int .i64 na, .slice pd x.length cd] 70) e4
              obtain ⟨E6, hE6, hD6⟩ := HR6.out.es
              have HX6 := hide (ho6.mono (B' := w10.heap.size + 1) (by have := HR5.out.lt; omega))
              have HF6 : Hid (Far ⟨i2, na, pd, x.length, cd⟩ (.slice pe ne ce)) := hide (far_new ho6 HR5.out.es)
              have HB6 : Hid (w10.heap.size + 1 ≤ w6.heap.size) := hide (by have := HR6.out.lt; omega)
              have HL6 : Hid (E6.length ≤ 1000000) := hide (by have := hD6.1; have := HSL.out.2; omega)
              clear ho6 hs6 hg6
              first
                | refine hK.out _ _ ?_ (fun hHeld => ?_)
                | (go_wp2_with fail; refine hK.out _ _ ?_ (fun hHeld => ?_))
              · (try dsimp only)
                exact e4
              clear hK K
              try simp only [Act.put, List.setIfInBounds_toArray, List.set_cons_zero, List.set_cons_succ]
              refine wpAnyH_take (i := 13) (oi := { dst := some 46, op := Op.build 70 #[(0, Operand.tmp 41), (1, Operand.tmp 43), (2, Operand.tmp 45)], type := 70, pos := "msg.go:67", after := _, guard := none }) (v := ?_) rfl (by kernel_rfl) (by kernel_rfl) (by kernel_rfl) (fun _ _ _ h => h) (Or.inl ⟨by rfl, ?_⟩) (by assumption) ?_
              rotate_left
              · intro w hSw
                (try dsimp only at hSw)
                go_simp
                try with_reducible rfl
              try simp only [Act.put, List.setIfInBounds_toArray, List.set_cons_zero, List.set_cons_succ]
              refine wpAnyH_ready (rs := [14]) (by kernel_rfl) (by simp) ?_
              refine AllReadyH.cons (o := { dst := some 47, op := Op.buildSlice 22 1 #[(0, Operand.tmp 46)], type := 22, pos := "msg.go:67", after := _, guard := none }) rfl (fun K hK => ?_) ?_
              · go_simp
                first
                  | refine hK.out _ _ ?_ (fun hHeld => ?_)
                  | (go_wp2_with fail; refine hK.out _ _ ?_ (fun hHeld => ?_))
                · (try dsimp only)
                  exact z4
                clear hK K
                try simp only [Act.put, List.setIfInBounds_toArray, List.set_cons_zero, List.set_cons_succ]
                refine wpAnyH_ready (rs := [15]) (by kernel_rfl) (by simp) ?_
                refine AllReadyH.cons (o := { dst := some 48, op := Op.call { callee := Callee.builtin Builtin.append, args := #[Operand.tmp 34, Operand.tmp 47], argTypes := #[22, 22] }, type := 22, pos := "msg.go:67", after := _, guard := none }) rfl (fun K hK => ?_) ?_
                · refine step_pushE1 (by rfl) _ _ (by rfl) (by rfl) ⟨i2, na, pd, x.length, cd⟩ (by rfl) (by rfl) (by rfl) hE6 HB6.out HL6.out ?_
                  intro v9 w9 ho9 hg9 he9
                  obtain ⟨p9, n9, c9, rfl⟩ := ho9.ecs.sl
                  have HR9 := hide (show OwnEns (w10.heap.size + 1) w9 (.slice p9 n9 c9) (L ++ [⟨i2, na, x⟩]) from ⟨_, ho9, hD6.push (e := ⟨i2, na, pd, x.length, cd⟩) (x := ⟨i2, na, x⟩) rfl rfl HX6.out HF6.out ⟨HI3.out, HFI.out⟩ hg9 he9⟩)
                  have HP9 := hide (HR6.out.put hg9 HR9.out)
                  obtain ⟨⟨m10, mf10⟩, m4⟩ := And.intro (HR6.out.cellPut hg9) (HR6.out.cellPut4 hg9)
                  have s4 := HP9.out.cell 4 rfl
                  rw [hbm] at m10 mf10 m4 s4
                  clear ho9 hg9 he9
                  first
                    | refine hK.out _ _ ?_ (fun hHeld => ?_)
                    | (go_wp2_with fail; refine hK.out _ _ ?_ (fun hHeld => ?_))
                  · (try dsimp only)
                    exact m4
                  clear hK K
                  try simp only [Act.put, List.setIfInBounds_toArray, List.set_cons_zero, List.set_cons_succ]
                  refine wpAnyH_take (i := 16) (oi := { dst := some 49, op := Op.fieldAddr 26 (Operand.tmp 4) 10, type := 0, pos := "msg.go:67", after := _, guard := none }) (v := ?_) rfl (by kernel_rfl) (by kernel_rfl) (by kernel_rfl) (fun _ _ _ h => h) (Or.inl ⟨by rfl, ?_⟩) (by assumption) ?_
                  rotate_left
                  · intro w hSw
                    (try dsimp only at hSw)
                    go_simp
                    try with_reducible rfl
                  try simp only [Act.put, List.setIfInBounds_toArray, List.set_cons_zero, List.set_cons_succ]
                  refine wpAnyH_ready (rs := [17]) (by kernel_rfl) (by simp) ?_
                  refine AllReadyH.cons (o := { dst := none, op := Op.store 22 (Operand.tmp 49) (Operand.tmp 48), type := 0, pos := "msg.go:67", after := _, guard := none }) rfl (fun K hK => ?_) ?_
                  · go_simp
                    first
                      | refine hK.out _ _ ?_ (fun hHeld => ?_)
                      | (go_wp2_with fail; refine hK.out _ _ ?_ (fun hHeld => ?_))
                    · (try dsimp only)
                      exact s4
                    clear hK K
                    try simp only [Act.put, List.setIfInBounds_toArray, List.set_cons_zero, List.set_cons_succ]
                    refine wpAnyH_done (by kernel_rfl) ?_ _
                    go_wp2
                    go_roundw
                    case rel =>
                      refine ⟨k + 1, .slice p9 n9 c9, by omega, by go_num, hide ?_⟩
                      rw [HSUC.out, ← HI2.out]
                      have := HP9.out
                      rw [hbm] at this
                      exact this
                    case measure => simp [intOf]; omega
                  exact AllReadyH.nil
                exact AllReadyH.nil
              exact AllReadyH.nil
            exact AllReadyH.nil
          refine AllReadyH.cons (o := { dst := some 45, op := Op.call { callee := Callee.value (Operand.func 85), args := #[Operand.tmp 44], argTypes := #[111] }, type := 24, pos := "msg.go:67", after := _, guard := none }) rfl (fun K hK => ?_) ?_
          · go_simp
            refine HT1.out.mono ?_
            rintro e w6 ⟨v6, rfl, ho6, hs6, hg6⟩
            obtain ⟨pd, cd, rfl⟩ := ho6.by_.shape
            have HR6 := hide (HR5.out.call (st' := (ax, Ex)) hs6 hg6)
            have e10 := HR6.out.cell 10 rfl
            have e4 := HR6.out.cell 4 rfl
            rw [hbm] at e10 e4
            have z10 := Lib.cell?_alloc_some (.cells #[.int .i64 i2, .int .i64 na, .slice pd x.length cd] 70) e10
            have z4 := Lib.cell?_alloc_some (.cells #[.int .i64 i2, .int .i64 na, .slice pd x.length cd] 70) e4
            obtain ⟨E6, hE6, hD6⟩ := HR6.out.es
            have HX6 := hide (ho6.mono (B' := w10.heap.size + 1) (by have := HR5.out.lt; omega))
            have HF6 : Hid (Far ⟨i2, na, pd, x.length, cd⟩ (.slice pe ne ce)) := hide (far_new ho6 HR5.out.es)
            have HB6 : Hid (w10.heap.size + 1 ≤ w6.heap.size) := hide (by have := HR6.out.lt; omega)
            have HL6 : Hid (E6.length ≤ 1000000) := hide (by have := hD6.1; have := HSL.out.2; omega)
            clear ho6 hs6 hg6
            first
              | refine hK.out _ _ ?_ (fun hHeld => ?_)
              | (go_wp2_with fail; refine hK.out _ _ ?_ (fun hHeld => ?_))
            · (try dsimp only)
              exact e4
            clear hK K
            try simp only [Act.put, List.setIfInBounds_toArray, List.set_cons_zero, List.set_cons_succ]
            refine wpAnyH_ready (rs := [6]) (by kernel_rfl) (by simp) ?_
            refine AllReadyH.cons (o := { dst := some 39, op := Op.load 22 (Operand.tmp 38), type := 22, pos := "msg.go:67", after := _, guard := none }) rfl (fun K hK => ?_) ?_
            · go_simp
              first
                | refine hK.out _ _ ?_ (fun hHeld => ?_)
                | (go_wp2_with fail; refine hK.out _ _ ?_ (fun hHeld => ?_))
              · (try dsimp only)
                first | assumption | go_keep
              clear hK K
              try simp only [Act.put, List.setIfInBounds_toArray, List.set_cons_zero, List.set_cons_succ]
              refine wpAnyH_take (i := 7) (oi := { dst := some 40, op := Op.call { callee := Callee.builtin Builtin.len, args := #[Operand.tmp 39], argTypes := #[22] }, type := 3, pos := "msg.go:67", after := _, guard := none }) (v := ?_) rfl (by kernel_rfl) (by kernel_rfl) (by kernel_rfl) (fun _ _ _ h => h) (Or.inl ⟨by rfl, ?_⟩) (by assumption) ?_
              rotate_left
              · intro w hSw
                (try dsimp only at hSw)
                go_simp
                try with_reducible rfl
              try simp only [Act.put, List.setIfInBounds_toArray, List.set_cons_zero, List.set_cons_succ]
              refine wpAnyH_take (i := 8) (oi := { dst := some 41, op := Op.binOp BinOp.add 3 (Operand.tmp 37) (Operand.tmp 40) 3, type := 3, pos := "msg.go:67", after := _, guard := none }) (v := ?_) rfl (by kernel_rfl) (by kernel_rfl) (by kernel_rfl) (fun _ _ _ h => h) (Or.inl ⟨by rfl, ?_⟩) (by assumption) ?_
              rotate_left
              · intro w hSw
                (try dsimp only at hSw)
                go_simp
                try with_reducible rfl
              try simp only [Act.put, List.setIfInBounds_toArray, List.set_cons_zero, List.set_cons_succ]
              refine wpAnyH_take (i := 13) (oi := { dst := some 46, op := Op.build 70 #[(0, Operand.tmp 41), (1, Operand.tmp 43), (2, Operand.tmp 45)], type := 70, pos := "msg.go:67", after := _, guard := none }) (v := ?_) rfl (by kernel_rfl) (by kernel_rfl) (by kernel_rfl) (fun _ _ _ h => h) (Or.inl ⟨by rfl, ?_⟩) (by assumption) ?_
              rotate_left
              · intro w hSw
                (try dsimp only at hSw)
                go_simp
                try with_reducible rfl
              try simp only [Act.put, List.setIfInBounds_toArray, List.set_cons_zero, List.set_cons_succ]
              refine wpAnyH_ready (rs := [14]) (by kernel_rfl) (by simp) ?_
              refine AllReadyH.cons (o := { dst := some 47, op := Op.buildSlice 22 1 #[(0, Operand.tmp 46)], type := 22, pos := "msg.go:67", after := _, guard := none }) rfl (fun K hK => ?_) ?_
              · go_simp
                first
                  | refine hK.out _ _ ?_ (fun hHeld => ?_)
                  | (go_wp2_with fail; refine hK.out _ _ ?_ (fun hHeld => ?_))
                · (try dsimp only)
                  exact z4
                clear hK K
                try simp only [Act.put, List.setIfInBounds_toArray, List.set_cons_zero, List.set_cons_succ]
                refine wpAnyH_ready (rs := [15]) (by kernel_rfl) (by simp) ?_
                refine AllReadyH.cons (o := { dst := some 48, op := Op.call { callee := Callee.builtin Builtin.append, args := #[Operand.tmp 34, Operand.tmp 47], argTypes := #[22, 22] }, type := 22, pos := "msg.go:67", after := _, guard := none }) rfl (fun K hK => ?_) ?_
                · refine step_pushE1 (by rfl) _ _ (by rfl) (by rfl) ⟨i2, na, pd, x.length, cd⟩ (by rfl) (by rfl) (by rfl) hE6 HB6.out HL6.out ?_
                  intro v9 w9 ho9 hg9 he9
                  obtain ⟨p9, n9, c9, rfl⟩ := ho9.ecs.sl
                  have HR9 := hide (show OwnEns (w10.heap.size + 1) w9 (.slice p9 n9 c9) (L ++ [⟨i2, na, x⟩]) from ⟨_, ho9, hD6.push (e := ⟨i2, na, pd, x.length, cd⟩) (x := ⟨i2, na, x⟩) rfl rfl HX6.out HF6.out ⟨HI3.out, HFI.out⟩ hg9 he9⟩)
                  have HP9 := hide (HR6.out.put hg9 HR9.out)
                  obtain ⟨⟨m10, mf10⟩, m4⟩ := And.intro (HR6.out.cellPut hg9) (HR6.out.cellPut4 hg9)
                  have s4 := HP9.out.cell 4 rfl
                  rw [hbm] at m10 mf10 m4 s4
                  clear ho9 hg9 he9
                  first
                    | refine hK.out _ _ ?_ (fun hHeld => ?_)
                    | (go_wp2_with fail; refine hK.out _ _ ?_ (fun hHeld => ?_))
                  · (try dsimp only)
                    exact m4
                  clear hK K
                  try simp only [Act.put, List.setIfInBounds_toArray, List.set_cons_zero, List.set_cons_succ]
                  refine wpAnyH_take (i := 16) (oi := { dst := some 49, op := Op.fieldAddr 26 (Operand.tmp 4) 10, type := 0, pos := "msg.go:67", after := _, guard := none }) (v := ?_) rfl (by kernel_rfl) (by kernel_rfl) (by kernel_rfl) (fun _ _ _ h => h) (Or.inl ⟨by rfl, ?_⟩) (by assumption) ?_
                  rotate_left
                  · intro w hSw
                    (try dsimp only at hSw)
                    go_simp
                    try with_reducible rfl
                  try simp only [Act.put, List.setIfInBounds_toArray, List.set_cons_zero, List.set_cons_succ]
                  refine wpAnyH_ready (rs := [17]) (by kernel_rfl) (by simp) ?_
                  refine AllReadyH.cons (o := { dst := none, op := Op.store 22 (Operand.tmp 49) (Operand.tmp 48), type := 0, pos := "msg.go:67", after := _, guard := none }) rfl (fun K hK => ?_) ?_
                  · go_simp
                    first
                      | refine hK.out _ _ ?_ (fun hHeld => ?_)
                      | (go_wp2_with fail; refine hK.out _ _ ?_ (fun hHeld => ?_))
                    · (try dsimp only)
                      exact s4
                    clear hK K
                    try simp only [Act.put, List.setIfInBounds_toArray, List.set_cons_zero, List.set_cons_succ]
                    refine wpAnyH_done (by kernel_rfl) ?_ _
                    go_wp2
                    go_roundw
                    case rel =>
                      refine ⟨k + 1, .slice p9 n9 c9, by omega, by go_num, hide ?_⟩
                      rw [HSUC.out, ← HI2.out]
                      have := HP9.out
                      rw [hbm] at this
                      exact this
                    case measure => simp [intOf]; omega
                  exact AllReadyH.nil
                exact AllReadyH.nil
              exact AllReadyH.nil
            exact AllReadyH.nil
          exact AllReadyH.nil
        refine AllReadyH.cons (o := { dst := some 39, op := Op.load 22 (Operand.tmp 38), type := 22, pos := "msg.go:67", after := _, guard := none }) rfl (fun K hK => ?_) ?_
        · go_simp
          first
            | refine hK.out _ _ ?_ (fun hHeld => ?_)
            | (go_wp2_with fail; refine hK.out _ _ ?_ (fun hHeld => ?_))
          · (try dsimp only)
            first | assumption | go_keep
          clear hK K
          try simp only [Act.put, List.setIfInBounds_toArray, List.set_cons_zero, List.set_cons_succ]
          refine wpAnyH_take (i := 7) (oi := { dst := some 40, op := Op.call { callee := Callee.builtin Builtin.len, args := #[Operand.tmp 39], argTypes := #[22] }, type := 3, pos := "msg.go:67", after := _, guard := none }) (v := ?_) rfl (by kernel_rfl) (by kernel_rfl) (by kernel_rfl) (fun _ _ _ h => h) (Or.inl ⟨by rfl, ?_⟩) (by assumption) ?_
          rotate_left
          · intro w hSw
            (try dsimp only at hSw)
            go_simp
            try with_reducible rfl
          try simp only [Act.put, List.setIfInBounds_toArray, List.set_cons_zero, List.set_cons_succ]
          refine wpAnyH_take (i := 8) (oi := { dst := some 41, op := Op.binOp BinOp.add 3 (Operand.tmp 37) (Operand.tmp 40) 3, type := 3, pos := "msg.go:67", after := _, guard := none }) (v := ?_) rfl (by kernel_rfl) (by kernel_rfl) (by kernel_rfl) (fun _ _ _ h => h) (Or.inl ⟨by rfl, ?_⟩) (by assumption) ?_
          rotate_left
          · intro w hSw
            (try dsimp only at hSw)
            go_simp
            try with_reducible rfl
          try simp only [Act.put, List.setIfInBounds_toArray, List.set_cons_zero, List.set_cons_succ]
          refine wpAnyH_ready (rs := [1, 12]) (by kernel_rfl) (by simp) ?_
          refine AllReadyH.cons (o := { dst := some 34, op := Op.load 22 (Operand.tmp 33), type := 22, pos := "msg.go:67", after := _, guard := none }) rfl (fun K hK => ?_) ?_
          · go_simp
            first
              | refine hK.out _ _ ?_ (fun hHeld => ?_)
              | (go_wp2_with fail; refine hK.out _ _ ?_ (fun hHeld => ?_))
            · (try dsimp only)
              first | assumption | go_keep
            clear hK K
            try simp only [Act.put, List.setIfInBounds_toArray, List.set_cons_zero, List.set_cons_succ]
            refine wpAnyH_ready (rs := [12]) (by kernel_rfl) (by simp) ?_
            refine AllReadyH.cons (o := { dst := some 45, op := Op.call { callee := Callee.value (Operand.func 85), args := #[Operand.tmp 44], argTypes := #[111] }, type := 24, pos := "msg.go:67", after := _, guard := none }) rfl (fun K hK => ?_) ?_
            · go_simp
              refine HT1.out.mono ?_
              rintro e w6 ⟨v6, rfl, ho6, hs6, hg6⟩
              obtain ⟨pd, cd, rfl⟩ := ho6.by_.shape
              have HR6 := hide (HR5.out.call (st' := (ax, Ex)) hs6 hg6)
              have e10 := HR6.out.cell 10 rfl
              have e4 := HR6.out.cell 4 rfl
              rw [hbm] at e10 e4
              have z10 := Lib.cell?_alloc_some (.cells #[.int .i64 i2, .int .i64 na, .slice pd x.length cd] 70) e10
              have z4 := Lib.cell?_alloc_some (.cells #[.int .i64 i2, .int .i64 na, .slice pd x.length cd] 70) e4
              obtain ⟨E6, hE6, hD6⟩ := HR6.out.es
              have HX6 := hide (ho6.mono (B' := w10.heap.size + 1) (by have := HR5.out.lt; omega))
              have HF6 : Hid (Far ⟨i2, na, pd, x.length, cd⟩ (.slice pe ne ce)) := hide (far_new ho6 HR5.out.es)
              have HB6 : Hid (w10.heap.size + 1 ≤ w6.heap.size) := hide (by have := HR6.out.lt; omega)
              have HL6 : Hid (E6.length ≤ 1000000) := hide (by have := hD6.1; have := HSL.out.2; omega)
              clear ho6 hs6 hg6
              first
                | refine hK.out _ _ ?_ (fun hHeld => ?_)
                | (go_wp2_with fail; refine hK.out _ _ ?_ (fun hHeld => ?_))
              · (try dsimp only)
                exact e4
              clear hK K
              try simp only [Act.put, List.setIfInBounds_toArray, List.set_cons_zero, List.set_cons_succ]
              refine wpAnyH_take (i := 13) (oi := { dst := some 46, op := Op.build 70 #[(0, Operand.tmp 41), (1, Operand.tmp 43), (2, Operand.tmp 45)], type := 70, pos := "msg.go:67", after := _, guard := none }) (v := ?_) rfl (by kernel_rfl) (by kernel_rfl) (by kernel_rfl) (fun _ _ _ h => h) (Or.inl ⟨by rfl, ?_⟩) (by assumption) ?_
              rotate_left
              · intro w hSw
                (try dsimp only at hSw)
                go_simp
                try with_reducible rfl
              try simp only [Act.put, List.setIfInBounds_toArray, List.set_cons_zero, List.set_cons_succ]
              refine wpAnyH_ready (rs := [14]) (by kernel_rfl) (by simp) ?_
              refine AllReadyH.cons (o := { dst := some 47, op := Op.buildSlice 22 1 #[(0, Operand.tmp 46)], type := 22, pos := "msg.go:67", after := _, guard := none }) rfl (fun K hK => ?_) ?_
              · go_simp
                first
                  | refine hK.out _ _ ?_ (fun hHeld => ?_)
                  | (go_wp2_with fail; refine hK.out _ _ ?_ (fun hHeld => ?_))
                · (try dsimp only)
                  exact z4
                clear hK K
                try simp only [Act.put, List.setIfInBounds_toArray, List.set_cons_zero, List.set_cons_succ]
                refine wpAnyH_ready (rs := [15]) (by kernel_rfl) (by simp) ?_
                refine AllReadyH.cons (o := { dst := some 48, op := Op.call { callee := Callee.builtin Builtin.append, args := #[Operand.tmp 34, Operand.tmp 47], argTypes := #[22, 22] }, type := 22, pos := "msg.go:67", after := _, guard := none }) rfl (fun K hK => ?_) ?_
                · refine step_pushE1 (by rfl) _ _ (by rfl) (by rfl) ⟨i2, na, pd, x.length, cd⟩ (by rfl) (by rfl) (by rfl) hE6 HB6.out HL6.out ?_
                  intro v9 w9 ho9 hg9 he9
                  obtain ⟨p9, n9, c9, rfl⟩ := ho9.ecs.sl
                  have HR9 := hide (show OwnEns (w10.heap.size + 1) w9 (.slice p9 n9 c9) (L ++ [⟨i2, na, x⟩]) from ⟨_, ho9, hD6.push (e := ⟨i2, na, pd, x.length, cd⟩) (x := ⟨i2, na, x⟩) rfl rfl HX6.out HF6.out ⟨HI3.out, HFI.out⟩ hg9 he9⟩)
                  have HP9 := hide (HR6.out.put hg9 HR9.out)
                  obtain ⟨⟨m10, mf10⟩, m4⟩ := And.intro (HR6.out.cellPut hg9) (HR6.out.cellPut4 hg9)
                  have s4 := HP9.out.cell 4 rfl
                  rw [hbm] at m10 mf10 m4 s4
                  clear ho9 hg9 he9
                  first
                    | refine hK.out _ _ ?_ (fun hHeld => ?_)
                    | (go_wp2_with fail; refine hK.out _ _ ?_ (fun hHeld => ?_))
                  · (try dsimp only)
                    exact m4
                  clear hK K
                  try simp only [Act.put, List.setIfInBounds_toArray, List.set_cons_zero, List.set_cons_succ]
                  refine wpAnyH_take (i := 16) (oi := { dst := some 49, op := Op.fieldAddr 26 (Operand.tmp 4) 10, type := 0, pos := "msg.go:67", after := _, guard := none }) (v := ?_) rfl (by kernel_rfl) (by kernel_rfl) (by kernel_rfl) (fun _ _ _ h => h) (Or.inl ⟨by rfl, ?_⟩) (by assumption) ?_
                  rotate_left
                  · intro w hSw
                    (try dsimp only at hSw)
                    go_simp
                    try with_reducible rfl
                  try simp only [Act.put, List.setIfInBounds_toArray, List.set_cons_zero, List.set_cons_succ]
                  refine wpAnyH_ready (rs := [17]) (by kernel_rfl) (by simp) ?_
                  refine AllReadyH.cons (o := { dst := none, op := Op.store 22 (Operand.tmp 49) (Operand.tmp 48), type := 0, pos := "msg.go:67", after := _, guard := none }) rfl (fun K hK => ?_) ?_
                  · go_simp
                    first
                      | refine hK.out _ _ ?_ (fun hHeld => ?_)
                      | (go_wp2_with fail; refine hK.out _ _ ?_ (fun hHeld => ?_))
                    · (try dsimp only)
                      exact s4
                    clear hK K
                    try simp only [Act.put, List.setIfInBounds_toArray, List.set_cons_zero, List.set_cons_succ]
                    refine wpAnyH_done (by kernel_rfl) ?_ _
                    go_wp2
                    go_roundw
                    case rel =>
                      refine ⟨k + 1, .slice p9 n9 c9, by omega, by go_num, hide ?_⟩
                      rw [HSUC.out, ← HI2.out]
                      have := HP9.out
                      rw [hbm] at this
                      exact this
                    case measure => simp [intOf]; omega
                  exact AllReadyH.nil
                exact AllReadyH.nil
              exact AllReadyH.nil
            exact AllReadyH.nil
          refine AllReadyH.cons (o := { dst := some 45, op := Op.call { callee := Callee.value (Operand.func 85), args := #[Operand.tmp 44], argTypes := #[111] }, type := 24, pos := "msg.go:67", after := _, guard := none }) rfl (fun K hK => ?_) ?_
          · go_simp
            refine HT1.out.mono ?_
            rintro e w6 ⟨v6, rfl, ho6, hs6, hg6⟩
            obtain ⟨pd, cd, rfl⟩ := ho6.by_.shape
            have HR6 := hide (HR5.out.call (st' := (ax, Ex)) hs6 hg6)
            have e10 := HR6.out.cell 10 rfl
            have e4 := HR6.out.cell 4 rfl
            rw [hbm] at e10 e4
            have z10 := Lib.cell?_alloc_some (.cells #[.int .i64 i2, .int .i64 na, .slice pd x.length cd] 70) e10
            have z4 := Lib.cell?_alloc_some (.cells #[.int .i64 i2, .int .i64 na, .slice pd x.length cd] 70) e4
            obtain ⟨E6, hE6, hD6⟩ := HR6.out.es
            have HX6 := hide (ho6.mono (B' := w10.heap.size + 1) (by have := HR5.out.lt; omega))
            have HF6 : Hid (Far ⟨i2, na, pd, x.length, cd⟩ (.slice pe ne ce)) := hide (far_new ho6 HR5.out.es)
            have HB6 : Hid (w10.heap.size + 1 ≤ w6.heap.size) := hide (by have := HR6.out.lt; omega)
            have HL6 : Hid (E6.length ≤ 1000000) := hide (by have := hD6.1; have := HSL.out.2; omega)
            clear ho6 hs6 hg6
            first
              | refine hK.out _ _ ?_ (fun hHeld => ?_)
              | (go_wp2_with fail; refine hK.out _ _ ?_ (fun hHeld => ?_))
            · (try dsimp only)
              exact e4
            clear hK K
            try simp only [Act.put, List.setIfInBounds_toArray, List.set_cons_zero, List.set_cons_succ]
            refine wpAnyH_take (i := 13) (oi := { dst := some 46, op := Op.build 70 #[(0, Operand.tmp 41), (1, Operand.tmp 43), (2, Operand.tmp 45)], type := 70, pos := "msg.go:67", after := _, guard := none }) (v := ?_) rfl (by kernel_rfl) (by kernel_rfl) (by kernel_rfl) (fun _ _ _ h => h) (Or.inl ⟨by rfl, ?_⟩) (by assumption) ?_
            rotate_left
            · intro w hSw
              (try dsimp only at hSw)
              go_simp
              try with_reducible rfl
            try simp only [Act.put, List.setIfInBounds_toArray, List.set_cons_zero, List.set_cons_succ]
            refine wpAnyH_ready (rs := [1, 14]) (by kernel_rfl) (by simp) ?_
            refine AllReadyH.cons (o := { dst := some 34, op := Op.load 22 (Operand.tmp 33), type := 22, pos := "msg.go:67", after := _, guard := none }) rfl (fun K hK => ?_) ?_
            · go_simp
              first
                | refine hK.out _ _ ?_ (fun hHeld => ?_)
                | (go_wp2_with fail; refine hK.out _ _ ?_ (fun hHeld => ?_))
              · (try dsimp only)
                first | assumption | go_keep
              clear hK K
              try simp only [Act.put, List.setIfInBounds_toArray, List.set_cons_zero, List.set_cons_succ]
              refine wpAnyH_ready (rs := [14]) (by kernel_rfl) (by simp) ?_
              refine AllReadyH.cons (o := { dst := some 47, op := Op.buildSlice 22 1 #[(0, Operand.tmp 46)], type := 22, pos := "msg.go:67", after := _, guard := none }) rfl (fun K hK => ?_) ?_
              · go_simp
                first
                  | refine hK.out _ _ ?_ (fun hHeld => ?_)
                  | (go_wp2_with fail; refine hK.out _ _ ?_ (fun hHeld => ?_))
                · (try dsimp only)
                  exact z4
                clear hK K
                try simp only [Act.put, List.setIfInBounds_toArray, List.set_cons_zero, List.set_cons_succ]
                refine wpAnyH_ready (rs := [15]) (by kernel_rfl) (by simp) ?_
                refine AllReadyH.cons (o := { dst := some 48, op := Op.call { callee := Callee.builtin Builtin.append, args := #[Operand.tmp 34, Operand.tmp 47], argTypes := #[22, 22] }, type := 22, pos := "msg.go:67", after := _, guard := none }) rfl (fun K hK => ?_) ?_
                · refine step_pushE1 (by rfl) _ _ (by rfl) (by rfl) ⟨i2, na, pd, x.length, cd⟩ (by rfl) (by rfl) (by rfl) hE6 HB6.out HL6.out ?_
                  intro v9 w9 ho9 hg9 he9
                  obtain ⟨p9, n9, c9, rfl⟩ := ho9.ecs.sl
                  have HR9 := hide (show OwnEns (w10.heap.size + 1) w9 (.slice p9 n9 c9) (L ++ [⟨i2, na, x⟩]) from ⟨_, ho9, hD6.push (e := ⟨i2, na, pd, x.length, cd⟩) (x := ⟨i2, na, x⟩) rfl rfl HX6.out HF6.out ⟨HI3.out, HFI.out⟩ hg9 he9⟩)
                  have HP9 := hide (HR6.out.put hg9 HR9.out)
                  obtain ⟨⟨m10, mf10⟩, m4⟩ := And.intro (HR6.out.cellPut hg9) (HR6.out.cellPut4 hg9)
                  have s4 := HP9.out.cell 4 rfl
                  rw [hbm] at m10 mf10 m4 s4
                  clear ho9 hg9 he9
                  first
                    | refine hK.out _ _ ?_ (fun hHeld => ?_)
                    | (go_wp2_with fail; refine hK.out _ _ ?_ (fun hHeld => ?_))
                  · (try dsimp only)
                    exact m4
                  clear hK K
                  try simp only [Act.put, List.setIfInBounds_toArray, List.set_cons_zero, List.set_cons_succ]
                  refine wpAnyH_take (i := 16) (oi := { dst := some 49, op := Op.fieldAddr 26 (Operand.tmp 4) 10, type := 0, pos := "msg.go:67", after := _, guard := none }) (v := ?_) rfl (by kernel_rfl) (by kernel_rfl) (by kernel_rfl) (fun _ _ _ h => h) (Or.inl ⟨by rfl, ?_⟩) (by assumption) ?_
                  rotate_left
                  · intro w hSw
                    (try dsimp only at hSw)
                    go_simp
                    try with_reducible rfl
                  try simp only [Act.put, List.setIfInBounds_toArray, List.set_cons_zero, List.set_cons_succ]
                  refine wpAnyH_ready (rs := [17]) (by kernel_rfl) (by simp) ?_
                  refine AllReadyH.cons (o := { dst := none, op := Op.store 22 (Operand.tmp 49) (Operand.tmp 48), type := 0, pos := "msg.go:67", after := _, guard := none }) rfl (fun K hK => ?_) ?_
                  · go_simp
                    first
                      | refine hK.out _ _ ?_ (fun hHeld => ?_)
                      | (go_wp2_with fail; refine hK.out _ _ ?_ (fun hHeld => ?_))
                    · (try dsimp only)
                      exact s4
                    clear hK K
                    try simp only [Act.put, List.setIfInBounds_toArray, List.set_cons_zero, List.set_cons_succ]
                    refine wpAnyH_done (by kernel_rfl) ?_ _
                    go_wp2
                    go_roundw
                    case rel =>
                      refine ⟨k + 1, .slice p9 n9 c9, by omega, by go_num, hide ?_⟩
                      rw [HSUC.out, ← HI2.out]
                      have := HP9.out
                      rw [hbm] at this
                      exact this
                    case measure => simp [intOf]; omega
                  exact AllReadyH.nil
                exact AllReadyH.nil
              exact AllReadyH.nil
            refine AllReadyH.cons (o := { dst := some 47, op := Op.buildSlice 22 1 #[(0, Operand.tmp 46)], type := 22, pos := "msg.go:67", after := _, guard := none }) rfl (fun K hK => ?_) ?_
            · go_simp
              first
                | refine hK.out _ _ ?_ (fun hHeld => ?_)
                | (go_wp2_with fail; refine hK.out _ _ ?_ (fun hHeld => ?_))
              · (try dsimp only)
                exact z4
              clear hK K
              try simp only [Act.put, List.setIfInBounds_toArray, List.set_cons_zero, List.set_cons_succ]
              refine wpAnyH_ready (rs := [1]) (by kernel_rfl) (by simp) ?_
              refine AllReadyH.cons (o := { dst := some 34, op := Op.load 22 (Operand.tmp 33), type := 22, pos := "msg.go:67", after := _, guard := none }) rfl (fun K hK => ?_) ?_
              · go_simp
                first
                  | refine hK.out _ _ ?_ (fun hHeld => ?_)
                  | (go_wp2_with fail; refine hK.out _ _ ?_ (fun hHeld => ?_))
                · (try dsimp only)
                  first | assumption | go_keep
                clear hK K
                try simp only [Act.put, List.setIfInBounds_toArray, List.set_cons_zero, List.set_cons_succ]
                refine wpAnyH_ready (rs := [15]) (by kernel_rfl) (by simp) ?_
                refine AllReadyH.cons (o := { dst := some 48, op := Op.call { callee := Callee.builtin Builtin.append, args := #[Operand.tmp 34, Operand.tmp 47], argTypes := #[22, 22] }, type := 22, pos := "msg.go:67", after := _, guard := none }) rfl (fun K hK => ?_) ?_
                · refine step_pushE1 (by rfl) _ _ (by rfl) (by rfl) ⟨i2, na, pd, x.length, cd⟩ (by rfl) (by rfl) (by rfl) hE6 HB6.out HL6.out ?_
                  intro v9 w9 ho9 hg9 he9
                  obtain ⟨p9, n9, c9, rfl⟩ := ho9.ecs.sl
                  have HR9 := hide (show OwnEns (w10.heap.size + 1) w9 (.slice p9 n9 c9) (L ++ [⟨i2, na, x⟩]) from ⟨_, ho9, hD6.push (e := ⟨i2, na, pd, x.length, cd⟩) (x := ⟨i2, na, x⟩) rfl rfl HX6.out HF6.out ⟨HI3.out, HFI.out⟩ hg9 he9⟩)
                  have HP9 := hide (HR6.out.put hg9 HR9.out)
                  obtain ⟨⟨m10, mf10⟩, m4⟩ := And.intro (HR6.out.cellPut hg9) (HR6.out.cellPut4 hg9)
                  have s4 := HP9.out.cell 4 rfl
                  rw [hbm] at m10 mf10 m4 s4
                  clear ho9 hg9 he9
                  first
                    | refine hK.out _ _ ?_ (fun hHeld => ?_)
                    | (go_wp2_with fail; refine hK.out _ _ ?_ (fun hHeld => ?_))
                  · (try dsimp only)
                    exact m4
                  clear hK K
                  try simp only [Act.put, List.setIfInBounds_toArray, List.set_cons_zero, List.set_cons_succ]
                  refine wpAnyH_take (i := 16) (oi := { dst := some 49, op := Op.fieldAddr 26 (Operand.tmp 4) 10, type := 0, pos := "msg.go:67", after := _, guard := none }) (v := ?_) rfl (by kernel_rfl) (by kernel_rfl) (by kernel_rfl) (fun _ _ _ h => h) (Or.inl ⟨by rfl, ?_⟩) (by assumption) ?_
                  rotate_left
                  · intro w hSw
                    (try dsimp only at hSw)
                    go_simp
                    try with_reducible rfl
                  try simp only [Act.put, List.setIfInBounds_toArray, List.set_cons_zero, List.set_cons_succ]
                  refine wpAnyH_ready (rs := [17]) (by kernel_rfl) (by simp) ?_
                  refine AllReadyH.cons (o := { dst := none, op := Op.store 22 (Operand.tmp 49) (Operand.tmp 48), type := 0, pos := "msg.go:67", after := _, guard := none }) rfl (fun K hK => ?_) ?_
                  · go_simp
                    first
                      | refine hK.out _ _ ?_ (fun hHeld => ?_)
                      | (go_wp2_with fail; refine hK.out _ _ ?_ (fun hHeld => ?_))
                    · (try dsimp only)
                      exact s4
                    clear hK K
                    try simp only [Act.put, List.setIfInBounds_toArray, List.set_cons_zero, List.set_cons_succ]
                    refine wpAnyH_done (by kernel_rfl) ?_ _
                    go_wp2
                    go_roundw
                    case rel =>
                      refine ⟨k + 1, .slice p9 n9 c9, by omega, by go_num, hide ?_⟩
                      rw [HSUC.out, ← HI2.out]
                      have := HP9.out
                      rw [hbm] at this
                      exact this
                    case measure => simp [intOf]; omega
                  exact AllReadyH.nil
                exact AllReadyH.nil
              exact AllReadyH.nil
            exact AllReadyH.nil
          exact AllReadyH.nil
        refine AllReadyH.cons (o := { dst := some 45, op := Op.call { callee := Callee.value (Operand.func 85), args := #[Operand.tmp 44], argTypes := #[111] }, type := 24, pos := "msg.go:67", after := _, guard := none }) rfl (fun K hK => ?_) ?_
        · go_simp
          refine HT1.out.mono ?_
          rintro e w6 ⟨v6, rfl, ho6, hs6, hg6⟩
          obtain ⟨pd, cd, rfl⟩ := ho6.by_.shape
          have HR6 := hide (HR5.out.call (st' := (ax, Ex)) hs6 hg6)
          have e10 := HR6.out.cell 10 rfl
          have e4 := HR6.out.cell 4 rfl
          rw [hbm] at e10 e4
          have z10 := Lib.cell?_alloc_some (.cells #[.int .i64 i2, .int .i64 na, .slice pd x.length cd] 70) e10
          have z4 := Lib.cell?_alloc_some (.cells #[.int .i64 i2, .int .i64 na, .slice pd x.length cd] 70) e4
          obtain ⟨E6, hE6, hD6⟩ := HR6.out.es
          have HX6 := hide (ho6.mono (B' := w10.heap.size + 1) (by have := HR5.out.lt; omega))
          have HF6 : Hid (Far ⟨i2, na, pd, x.length, cd⟩ (.slice pe ne ce)) := hide (far_new ho6 HR5.out.es)
          have HB6 : Hid (w10.heap.size + 1 ≤ w6.heap.size) := hide (by have := HR6.out.lt; omega)
          have HL6 : Hid (E6.length ≤ 1000000) := hide (by have := hD6.1; have := HSL.out.2; omega)
          clear ho6 hs6 hg6
          first
            | refine hK.out _ _ ?_ (fun hHeld => ?_)
            | (go_wp2_with fail; refine hK.out _ _ ?_ (fun hHeld => ?_))
          · (try dsimp only)
            exact e4
          clear hK K
          try simp only [Act.put, List.setIfInBounds_toArray, List.set_cons_zero, List.set_cons_succ]
          refine wpAnyH_ready (rs := [1, 6]) (by kernel_rfl) (by simp) ?_
          refine AllReadyH.cons (o := { dst := some 34, op := Op.load 22 (Operand.tmp 33), type := 22, pos := "msg.go:67", after := _, guard := none }) rfl (fun K hK => ?_) ?_
          · go_simp
            first
              | refine hK.out _ _ ?_ (fun hHeld => ?_)
              | (go_wp2_with fail; refine hK.out _ _ ?_ (fun hHeld => ?_))
            · (try dsimp only)
              first | assumption | go_keep
            clear hK K
            try simp only [Act.put, List.setIfInBounds_toArray, List.set_cons_zero, List.set_cons_succ]
            refine wpAnyH_ready (rs := [6]) (by kernel_rfl) (by simp) ?_
            refine AllReadyH.cons (o := { dst := some 39, op := Op.load 22 (Operand.tmp 38), type := 22, pos := "msg.go:67", after := _, guard := none }) rfl (fun K hK => ?_) ?_
            · go_simp
              first
                | refine hK.out _ _ ?_ (fun hHeld => ?_)
                | (go_wp2_with fail; refine hK.out _ _ ?_ (fun hHeld => ?_))
              · (try dsimp only)
                first | assumption | go_keep
              clear hK K
              try simp only [Act.put, List.setIfInBounds_toArray, List.set_cons_zero, List.set_cons_succ]
              refine wpAnyH_take (i := 7) (oi := { dst := some 40, op := Op.call { callee := Callee.builtin Builtin.len, args := #[Operand.tmp 39], argTypes := #[22] }, type := 3, pos := "msg.go:67", after := _, guard := none }) (v := ?_) rfl (by kernel_rfl) (by kernel_rfl) (by kernel_rfl) (fun _ _ _ h => h) (Or.inl ⟨by rfl, ?_⟩) (by assumption) ?_
              rotate_left
              · intro w hSw
                (try dsimp only at hSw)
                go_simp
                try with_reducible rfl
              try simp only [Act.put, List.setIfInBounds_toArray, List.set_cons_zero, List.set_cons_succ]
              refine wpAnyH_take (i := 8) (oi := { dst := some 41, op := Op.binOp BinOp.add 3 (Operand.tmp 37) (Operand.tmp 40) 3, type := 3, pos := "msg.go:67", after := _, guard := none }) (v := ?_) rfl (by kernel_rfl) (by kernel_rfl) (by kernel_rfl) (fun _ _ _ h => h) (Or.inl ⟨by rfl, ?_⟩) (by assumption) ?_
              rotate_left
              · intro w hSw
                (try dsimp only at hSw)
                go_simp
                try with_reducible rfl
              try simp only [Act.put, List.setIfInBounds_toArray, List.set_cons_zero, List.set_cons_succ]
              refine wpAnyH_take (i := 13) (oi := { dst := some 46, op := Op.build 70 #[(0, Operand.tmp 41), (1, Operand.tmp 43), (2, Operand.tmp 45)], type := 70, pos := "msg.go:67", after := _, guard := none }) (v := ?_) rfl (by kernel_rfl) (by kernel_rfl) (by kernel_rfl) (fun _ _ _ h => h) (Or.inl ⟨by rfl, ?_⟩) (by assumption) ?_
              rotate_left
              · intro w hSw
                (try dsimp only at hSw)
                go_simp
                try with_reducible rfl
              try simp only [Act.put, List.setIfInBounds_toArray, List.set_cons_zero, List.set_cons_succ]
              refine wpAnyH_ready (rs := [14]) (by kernel_rfl) (by simp) ?_
              refine AllReadyH.cons (o := { dst := some 47, op := Op.buildSlice 22 1 #[(0, Operand.tmp 46)], type := 22, pos := "msg.go:67", after := _, guard := none }) rfl (fun K hK => ?_) ?_
              · go_simp
                first
                  | refine hK.out _ _ ?_ (fun hHeld => ?_)
                  | (go_wp2_with fail; refine hK.out _ _ ?_ (fun hHeld => ?_))
                · (try dsimp only)
                  exact z4
                clear hK K
                try simp only [Act.put, List.setIfInBounds_toArray, List.set_cons_zero, List.set_cons_succ]
                refine wpAnyH_ready (rs := [15]) (by kernel_rfl) (by simp) ?_
                refine AllReadyH.cons (o := { dst := some 48, op := Op.call { callee := Callee.builtin Builtin.append, args := #[Operand.tmp 34, Operand.tmp 47], argTypes := #[22, 22] }, type := 22, pos := "msg.go:67", after := _, guard := none }) rfl (fun K hK => ?_) ?_
                · refine step_pushE1 (by rfl) _ _ (by rfl) (by rfl) ⟨i2, na, pd, x.length, cd⟩ (by rfl) (by rfl) (by rfl) hE6 HB6.out HL6.out ?_
                  intro v9 w9 ho9 hg9 he9
                  obtain ⟨p9, n9, c9, rfl⟩ := ho9.ecs.sl
                  have HR9 := hide (show OwnEns (w10.heap.size + 1) w9 (.slice p9 n9 c9) (L ++ [⟨i2, na, x⟩]) from ⟨_, ho9, hD6.push (e := ⟨i2, na, pd, x.length, cd⟩) (x := ⟨i2, na, x⟩) rfl rfl HX6.out HF6.out ⟨HI3.out, HFI.out⟩ hg9 he9⟩)
                  have HP9 := hide (HR6.out.put hg9 HR9.out)
                  obtain ⟨⟨m10, mf10⟩, m4⟩ := And.intro (HR6.out.cellPut hg9) (HR6.out.cellPut4 hg9)
                  have s4 := HP9.out.cell 4 rfl
                  rw [hbm] at m10 mf10 m4 s4
                  clear ho9 hg9 he9
                  first
                    | refine hK.out _ _ ?_ (fun hHeld => ?_)
                    | (go_wp2_with fail; refine hK.out _ _ ?_ (fun hHeld => ?_))
                  · (try dsimp only)
                    exact m4
                  clear hK K
                  try simp only [Act.put, List.setIfInBounds_toArray, List.set_cons_zero, List.set_cons_succ]
                  refine wpAnyH_take (i := 16) (oi := { dst := some 49, op := Op.fieldAddr 26 (Operand.tmp 4) 10, type := 0, pos := "msg.go:67", after := _, guard := none }) (v := ?_) rfl (by kernel_rfl) (by kernel_rfl) (by kernel_rfl) (fun _ _ _ h => h) (Or.inl ⟨by rfl, ?_⟩) (by assumption) ?_
                  rotate_left
                  · intro w hSw
                    (try dsimp only at hSw)
                    go_simp
                    try with_reducible rfl
                  try simp only [Act.put, List.setIfInBounds_toArray, List.set_cons_zero, List.set_cons_succ]
                  refine wpAnyH_ready (rs := [17]) (by kernel_rfl) (by simp) ?_
                  refine AllReadyH.cons (o := { dst := none, op := Op.store 22 (Operand.tmp 49) (Operand.tmp 48), type := 0, pos := "msg.go:67", after := _, guard := none }) rfl (fun K hK => ?_) ?_
                  · go_simp
                    first
                      | refine hK.out _ _ ?_ (fun hHeld => ?_)
                      | (go_wp2_with fail; refine hK.out _ _ ?_ (fun hHeld => ?_))
                    · (try dsimp only)
                      exact s4
                    clear hK K
                    try simp only [Act.put, List.setIfInBounds_toArray, List.set_cons_zero, List.set_cons_succ]
                    refine wpAnyH_done (by kernel_rfl) ?_ _
                    go_wp2
                    go_roundw
                    case rel =>
                      refine ⟨k + 1, .slice p9 n9 c9, by omega, by go_num, hide ?_⟩
                      rw [HSUC.out, ← HI2.out]
                      have := HP9.out
                      rw [hbm] at this
                      exact this
                    case measure => simp [intOf]; omega
                  exact AllReadyH.nil
                exact AllReadyH.nil
              exact AllReadyH.nil
            exact AllReadyH.nil
          refine AllReadyH.cons (o := { dst := some 39, op := Op.load 22 (Operand.tmp 38), type := 22, pos := "msg.go:67", after := _, guard := none }) rfl (fun K hK => ?_) ?_
          · go_simp
            first
              | refine hK.out _ _ ?_ (fun hHeld => ?_)
              | (go_wp2_with fail; refine hK.out _ _ ?_ (fun hHeld => ?_))
            · (try dsimp only)
              first | assumption | go_keep
            clear hK K
            try simp only [Act.put, List.setIfInBounds_toArray, List.set_cons_zero, List.set_cons_succ]
            refine wpAnyH_take (i := 7) (oi := { dst := some 40, op := Op.call { callee := Callee.builtin Builtin.len, args := #[Operand.tmp 39], argTypes := #[22] }, type := 3, pos := "msg.go:67", after := _, guard := none }) (v := ?_) rfl (by kernel_rfl) (by kernel_rfl) (by kernel_rfl) (fun _ _ _ h => h) (Or.inl ⟨by rfl, ?_⟩) (by assumption) ?_
            rotate_left
            · intro w hSw
              (try dsimp only at hSw)
              go_simp
              try with_reducible rfl
            try simp only [Act.put, List.setIfInBounds_toArray, List.set_cons_zero, List.set_cons_succ]
            refine wpAnyH_take (i := 8) (oi := { dst := some 41, op := Op.binOp BinOp.add 3 (Operand.tmp 37) (Operand.tmp 40) 3, type := 3, pos := "msg.go:67", after := _, guard := none }) (v := ?_) rfl (by kernel_rfl) (by kernel_rfl) (by kernel_rfl) (fun _ _ _ h => h) (Or.inl ⟨by rfl, ?_⟩) (by assumption) ?_
            rotate_left
            · intro w hSw
              (try dsimp only at hSw)
              go_simp
              try with_reducible rfl
            try simp only [Act.put, List.setIfInBounds_toArray, List.set_cons_zero, List.set_cons_succ]
            refine wpAnyH_take (i := 13) (oi := { dst := some 46, op := Op.build 70 #[(0, Operand.tmp 41), (1, Operand.tmp 43), (2, Operand.tmp 45)], type := 70, pos := "msg.go:67", after := _, guard := none }) (v := ?_) rfl (by kernel_rfl) (by kernel_rfl) (by kernel_rfl) (fun _ _ _ h => h) (Or.inl ⟨by rfl, ?_⟩) (by assumption) ?_
            rotate_left
            · intro w hSw
              (try dsimp only at hSw)
              go_simp
              try with_reducible rfl
            try simp only [Act.put, List.setIfInBounds_toArray, List.set_cons_zero, List.set_cons_succ]
            refine wpAnyH_ready (rs := [1, 14]) (by kernel_rfl) (by simp) ?_
            refine AllReadyH.cons (o := { dst := some 34, op := Op.load 22 (Operand.tmp 33), type := 22, pos := "msg.go:67", after := _, guard := none }) rfl (fun K hK => ?_) ?_
            · go_simp
              first
                | refine hK.out _ _ ?_ (fun hHeld => ?_)
                | (go_wp2_with fail; refine hK.out _ _ ?_ (fun hHeld => ?_))
              · (try dsimp only)
                first | assumption | go_keep
              clear hK K
              try simp only [Act.put, List.setIfInBounds_toArray, List.set_cons_zero, List.set_cons_succ]
              refine wpAnyH_ready (rs := [14]) (by kernel_rfl) (by simp) ?_
              refine AllReadyH.cons (o := { dst := some 47, op := Op.buildSlice 22 1 #[(0, Operand.tmp 46)], type := 22, pos := "msg.go:67", after := _, guard := none }) rfl (fun K hK => ?_) ?_
              · go_simp
                first
                  | refine hK.out _ _ ?_ (fun hHeld => ?_)
                  | (go_wp2_with fail; refine hK.out _ _ ?_ (fun hHeld => ?_))
                · (try dsimp only)
                  exact z4
                clear hK K
                try simp only [Act.put, List.setIfInBounds_toArray, List.set_cons_zero, List.set_cons_succ]
                refine wpAnyH_ready (rs := [15]) (by kernel_rfl) (by simp) ?_
                refine AllReadyH.cons (o := { dst := some 48, op := Op.call { callee := Callee.builtin Builtin.append, args := #[Operand.tmp 34, Operand.tmp 47], argTypes := #[22, 22] }, type := 22, pos := "msg.go:67", after := _, guard := none }) rfl (fun K hK => ?_) ?_
                · refine step_pushE1 (by rfl) _ _ (by rfl) (by rfl) ⟨i2, na, pd, x.length, cd⟩ (by rfl) (by rfl) (by rfl) hE6 HB6.out HL6.out ?_
                  intro v9 w9 ho9 hg9 he9
                  obtain ⟨p9, n9, c9, rfl⟩ := ho9.ecs.sl
                  have HR9 := hide (show OwnEns (w10.heap.size + 1) w9 (.slice p9 n9 c9) (L ++ [⟨i2, na, x⟩]) from ⟨_, ho9, hD6.push (e := ⟨i2, na, pd, x.length, cd⟩) (x := ⟨i2, na, x⟩) rfl rfl HX6.out HF6.out ⟨HI3.out, HFI.out⟩ hg9 he9⟩)
                  have HP9 := hide (HR6.out.put hg9 HR9.out)
                  obtain ⟨⟨m10, mf10⟩, m4⟩ := And.intro (HR6.out.cellPut hg9) (HR6.out.cellPut4 hg9)
                  have s4 := HP9.out.cell 4 rfl
                  rw [hbm] at m10 mf10 m4 s4
                  clear ho9 hg9 he9
                  first
                    | refine hK.out _ _ ?_ (fun hHeld => ?_)
                    | (go_wp2_with fail; refine hK.out _ _ ?_ (fun hHeld => ?_))
                  · (try dsimp only)
                    exact m4
                  clear hK K
                  try simp only [Act.put, List.setIfInBounds_toArray, List.set_cons_zero, List.set_cons_succ]
                  refine wpAnyH_take (i := 16) (oi := { dst := some 49, op := Op.fieldAddr 26 (Operand.tmp 4) 10, type := 0, pos := "msg.go:67", after := _, guard := none }) (v := ?_) rfl (by kernel_rfl) (by kernel_rfl) (by kernel_rfl) (fun _ _ _ h => h) (Or.inl ⟨by rfl, ?_⟩) (by assumption) ?_
                  rotate_left
                  · intro w hSw
                    (try dsimp only at hSw)
                    go_simp
                    try with_reducible rfl
                  try simp only [Act.put, List.setIfInBounds_toArray, List.set_cons_zero, List.set_cons_succ]
                  refine wpAnyH_ready (rs := [17]) (by kernel_rfl) (by simp) ?_
                  refine AllReadyH.cons (o := { dst := none, op := Op.store 22 (Operand.tmp 49) (Operand.tmp 48), type := 0, pos := "msg.go:67", after := _, guard := none }) rfl (fun K hK => ?_) ?_
                  · go_simp
                    first
                      | refine hK.out _ _ ?_ (fun hHeld => ?_)
                      | (go_wp2_with fail; refine hK.out _ _ ?_ (fun hHeld => ?_))
                    · (try dsimp only)
                      exact s4
                    clear hK K
                    try simp only [Act.put, List.setIfInBounds_toArray, List.set_cons_zero, List.set_cons_succ]
                    refine wpAnyH_done (by kernel_rfl) ?_ _
                    go_wp2
                    go_roundw
                    case rel =>
                      refine ⟨k + 1, .slice p9 n9 c9, by omega, by go_num, hide ?_⟩
                      rw [HSUC.out, ← HI2.out]
                      have := HP9.out
                      rw [hbm] at this
                      exact this
                    case measure => simp [intOf]; omega
                  exact AllReadyH.nil
                exact AllReadyH.nil
              exact AllReadyH.nil
            refine AllReadyH.cons (o := { dst := some 47, op := Op.buildSlice 22 1 #[(0, Operand.tmp 46)], type := 22, pos := "msg.go:67", after := _, guard := none }) rfl (fun K hK => ?_) ?_
            · go_simp
              first
                | refine hK.out _ _ ?_ (fun hHeld => ?_)
                | (go_wp2_with fail; refine hK.out _ _ ?_ (fun hHeld => ?_))
              · (try dsimp only)
                exact z4
              clear hK K
              try simp only [Act.put, List.setIfInBounds_toArray, List.set_cons_zero, List.set_cons_succ]
              refine wpAnyH_ready (rs := [1]) (by kernel_rfl) (by simp) ?_
              refine AllReadyH.cons (o := { dst := some 34, op := Op.load 22 (Operand.tmp 33), type := 22, pos := "msg.go:67", after := _, guard := none }) rfl (fun K hK => ?_) ?_
              · go_simp
                first
                  | refine hK.out _ _ ?_ (fun hHeld => ?_)
                  | (go_wp2_with fail; refine hK.out _ _ ?_ (fun hHeld => ?_))
                · (try dsimp only)
                  first | assumption | go_keep
                clear hK K
                try simp only [Act.put, List.setIfInBounds_toArray, List.set_cons_zero, List.set_cons_succ]
                refine wpAnyH_ready (rs := [15]) (by kernel_rfl) (by simp) ?_
                refine AllReadyH.cons (o := { dst := some 48, op := Op.call { callee := Callee.builtin Builtin.append, args := #[Operand.tmp 34, Operand.tmp 47], argTypes := #[22, 22] }, type := 22, pos := "msg.go:67", after := _, guard := none }) rfl (fun K hK => ?_) ?_
                · refine step_pushE1 (by rfl) _ _ (by rfl) (by rfl) ⟨i2, na, pd, x.length, cd⟩ (by rfl) (by rfl) (by rfl) hE6 HB6.out HL6.out ?_
                  intro v9 w9 ho9 hg9 he9
                  obtain ⟨p9, n9, c9, rfl⟩ := ho9.ecs.sl
                  have HR9 := hide (show OwnEns (w10.heap.size + 1) w9 (.slice p9 n9 c9) (L ++ [⟨i2, na, x⟩]) from ⟨_, ho9, hD6.push (e := ⟨i2, na, pd, x.length, cd⟩) (x := ⟨i2, na, x⟩) rfl rfl HX6.out HF6.out ⟨HI3.out, HFI.out⟩ hg9 he9⟩)
                  have HP9 := hide (HR6.out.put hg9 HR9.out)
                  obtain ⟨⟨m10, mf10⟩, m4⟩ := And.intro (HR6.out.cellPut hg9) (HR6.out.cellPut4 hg9)
                  have s4 := HP9.out.cell 4 rfl
                  rw [hbm] at m10 mf10 m4 s4
                  clear ho9 hg9 he9
                  first
                    | refine hK.out _ _ ?_ (fun hHeld => ?_)
                    | (go_wp2_with fail; refine hK.out _ _ ?_ (fun hHeld => ?_))
                  · (try dsimp only)
                    exact m4
                  clear hK K
                  try simp only [Act.put, List.setIfInBounds_toArray, List.set_cons_zero, List.set_cons_succ]
                  refine wpAnyH_take (i := 16) (oi := { dst := some 49, op := Op.fieldAddr 26 (Operand.tmp 4) 10, type := 0, pos := "msg.go:67", after := _, guard := none }) (v := ?_) rfl (by kernel_rfl) (by kernel_rfl) (by kernel_rfl) (fun _ _ _ h => h) (Or.inl ⟨by rfl, ?_⟩) (by assumption) ?_
                  rotate_left
                  · intro w hSw
                    (try dsimp only at hSw)
                    go_simp
                    try with_reducible rfl
                  try simp only [Act.put, List.setIfInBounds_toArray, List.set_cons_zero, List.set_cons_succ]
                  refine wpAnyH_ready (rs := [17]) (by kernel_rfl) (by simp) ?_
                  refine AllReadyH.cons (o := { dst := none, op := Op.store 22 (Operand.tmp 49) (Operand.tmp 48), type := 0, pos := "msg.go:67", after := _, guard := none }) rfl (fun K hK => ?_) ?_
                  · go_simp
                    first
                      | refine hK.out _ _ ?_ (fun hHeld => ?_)
                      | (go_wp2_with fail; refine hK.out _ _ ?_ (fun hHeld => ?_))
                    · (try dsimp only)
                      exact s4
                    clear hK K
                    try simp only [Act.put, List.setIfInBounds_toArray, List.set_cons_zero, List.set_cons_succ]
                    refine wpAnyH_done (by kernel_rfl) ?_ _
                    go_wp2
                    go_roundw
                    case rel =>
                      refine ⟨k + 1, .slice p9 n9 c9, by omega, by go_num, hide ?_⟩
                      rw [HSUC.out, ← HI2.out]
                      have := HP9.out
                      rw [hbm] at this
                      exact this
                    case measure => simp [intOf]; omega
                  exact AllReadyH.nil
                exact AllReadyH.nil
              exact AllReadyH.nil
            exact AllReadyH.nil
          exact AllReadyH.nil
        exact AllReadyH.nil
      exact AllReadyH.nil
    · have hkk : k = mc := by omega
      subst hkk
      have HNE2 := hide hne
      have HSL := hide hsl
      have hE : rdE l = (L, st) := by
        unfold rdE rdC
        rw [HHH.out]
        dsimp only
        rw [HC.out]
        dsimp only
        rw [HMC.out, ← hst, ← hLL, ← HHD.out]
      have HE := hide hE
      obtain ⟨nv, av, Ev, hv⟩ : ∃ n a E, nx l st = (n, a, E) := ⟨_, _, _, rfl⟩
      have hvl := nx_le (l := l) (st := st) hsl.1
      rw [hv] at hvl
      dsimp only at hvl
      have HVL := hide hvl
      have HV := hide hv
      have hnv9 : (nv : Int) ≤ 9223372036854775807 := by omega
      have k21 := scanNumber_any HR.out.sc (HGB2.out _ HR.out.gr) (by have := HN.out; omega) (N := nv) (A := av) (E := Ev) hv
      clear hst hLL hsl hne hE hv hvl
      go_wp2_with fail
      refine k21.mono ?_
      rintro e w21 ⟨rfl, hs, hg⟩
      have HR2 := hide ((HR.out.call (st' := (av, Ev)) hs hg).next)
      clear hs hg k21
      obtain ⟨mv, hmv⟩ : ∃ mv, min nv 7 = mv := ⟨_, rfl⟩
      have hmi2 : min (nv : Int) 7 = (mv : Int) := by omega
      have HMV := hide hmv
      have hm7 : mv ≤ 7 := by omega
      clear hmv
      go_wp2_with fail
      go_loopw [54] (fun i wr => ∃ (j : Nat) (vv : Value), j ≤ mv ∧ i = .int .i64 j ∧ Hid (RdBt w10 w21 wr g (.slice pu nu cu) (rdNs l j (av, Ev)).2 H (.slice pe ne ce) vv L (rdNs l j (av, Ev)).1)) (fun i _ => mv - (intOf i).toNat)
      case atStart => exact ⟨0, _, by omega, rfl, HR2⟩
      case round =>
        obtain ⟨j, vv, hj, rfl, HQ⟩ := hrel
        obtain ⟨st3, hst3⟩ : ∃ st, (rdNs l j (av, Ev)).2 = st := ⟨_, rfl⟩
        obtain ⟨V3, hV3⟩ : ∃ V, (rdNs l j (av, Ev)).1 = V := ⟨_, rfl⟩
        have hsl3 : st3.1 ≤ l.length ∧ V3.length = j := by
          have := rdNs_le (st := (av, Ev)) HVL.out.1 j
          rw [hst3, hV3] at this
          exact this
        rw [hst3, hV3] at HQ
        obtain ⟨p3, n3', c3, rfl⟩ := HQ.out.vs.ns.sl
        by_cases hlt2 : j < mv
        · obtain ⟨na, aa, Ea, ha⟩ : ∃ n a E, nx l st3 = (n, a, E) := ⟨_, _, _, rfl⟩
          have hfi := nx_fits (l := l) (st := st3) hsl3.1
          rw [ha] at hfi
          dsimp only at hfi
          have HSUC : Hid (rdNs l (j + 1) (av, Ev) = (V3 ++ [(na : Int)], aa, Ea)) := hide (by
            unfold rdNs
            rw [hst3, hV3, ha])
          have HN1 := hide (fun q : Nat => scanNumber_any (w := wr.drewN q) (HQ.out.drewN q).sc (HGB2.out _ (HQ.out.drewN q).gr) (by have := HN.out; omega) (N := na) (A := aa) (E := Ea) ha)
          have HFI := hide hfi
          have HL3 : Hid (V3.length ≤ 1000000) := hide (by omega)
          have g11 := HQ.out.cell 11 rfl
          rw [hbm] at g11
          clear ha hfi hst3 hV3 hsl3
          go_wp2_with fail
          refine wp_region_held_drew (S := fun _ => True) (by kernel_rfl) ?_ (fun hHeld => ?_)
          · (try dsimp only)
            try trivial
          refine wpAnyH_take (i := 0) (oi := { dst := some 56, op := Op.fieldAddr 26 (Operand.tmp 4) 11, type := 0, pos := "msg.go:70", after := #[], guard := none }) (v := ?_) rfl (by kernel_rfl) (by kernel_rfl) (by kernel_rfl) (fun _ _ _ h => h) (Or.inl ⟨by rfl, ?_⟩) (by assumption) ?_
          rotate_left
          · intro w hSw
            (try dsimp only at hSw)
            go_simp
            try with_reducible rfl
          try simp only [Act.put, List.setIfInBounds_toArray, List.set_cons_zero, List.set_cons_succ]
          refine wpAnyH_take (i := 2) (oi := { dst := some 58, op := Op.move (Operand.tmp 3), type := 111, pos := "msg.go:70", after := #[], guard := none }) (v := ?_) rfl (by kernel_rfl) (by kernel_rfl) (by kernel_rfl) (fun _ _ _ h => h) (Or.inl ⟨by rfl, ?_⟩) (by assumption) ?_
          rotate_left
          · intro w hSw
            (try dsimp only at hSw)
            go_simp
            try with_reducible rfl
          try simp only [Act.put, List.setIfInBounds_toArray, List.set_cons_zero, List.set_cons_succ]
          refine wpAnyH_ready (rs := [1, 3]) (by kernel_rfl) (by simp) ?_
          refine AllReadyH.cons (o := { dst := some 57, op := Op.load 23 (Operand.tmp 56), type := 23, pos := "msg.go:70", after := _, guard := none }) rfl (fun K hK => ?_) ?_
          · go_simp
            first
              | refine hK.out _ _ ?_ (fun hHeld => ?_)
              | (go_wp2_with fail; refine hK.out _ _ ?_ (fun hHeld => ?_))
            · (try dsimp only)
              try trivial
            clear hK K
            try simp only [Act.put, List.setIfInBounds_toArray, List.set_cons_zero, List.set_cons_succ]
            refine wpAnyH_ready (rs := [3]) (by kernel_rfl) (by simp) ?_
            refine AllReadyH.cons (o := { dst := some 59, op := Op.call { callee := Callee.value (Operand.func 83), args := #[Operand.tmp 58], argTypes := #[111] }, type := 3, pos := "msg.go:70", after := _, guard := none }) rfl (fun K hK => ?_) ?_
            · go_simp
              refine (HN1.out 1).mono ?_
              rintro e w5 ⟨rfl, hs5, hg5⟩
              have HR5 := hide ((HQ.out.drewN 1).call (st' := (aa, Ea)) hs5 hg5)
              have f11 := HR5.out.cell 11 rfl
              rw [hbm] at f11
              have z11 := Lib.cell?_alloc_some (.cells #[.int .i64 na] 3) f11
              have HB5 : Hid (w21.heap.size ≤ w5.heap.size) := hide (Nat.le_trans HQ.out.ch.size hg5.size)
              clear hs5 hg5
              first
                | refine hK.out _ _ ?_ (fun hHeld => ?_)
                | (go_wp2_with fail; refine hK.out _ _ ?_ (fun hHeld => ?_))
              · (try dsimp only)
                try trivial
              clear hK K
              try simp only [Act.put, List.setIfInBounds_toArray, List.set_cons_zero, List.set_cons_succ]
              refine wpAnyH_ready (rs := [4]) (by kernel_rfl) (by simp) ?_
              refine AllReadyH.cons (o := { dst := some 60, op := Op.buildSlice 23 1 #[(0, Operand.tmp 59)], type := 23, pos := "msg.go:70", after := _, guard := none }) rfl (fun K hK => ?_) ?_
              · go_simp
                first
                  | refine hK.out _ _ ?_ (fun hHeld => ?_)
                  | (go_wp2_with fail; refine hK.out _ _ ?_ (fun hHeld => ?_))
                · (try dsimp only)
                  try trivial
                clear hK K
                try simp only [Act.put, List.setIfInBounds_toArray, List.set_cons_zero, List.set_cons_succ]
                refine wpAnyH_ready (rs := [5]) (by kernel_rfl) (by simp) ?_
                refine AllReadyH.cons (o := { dst := some 61, op := Op.call { callee := Callee.builtin Builtin.append, args := #[Operand.tmp 57, Operand.tmp 60], argTypes := #[23, 23] }, type := 23, pos := "msg.go:70", after := _, guard := none }) rfl (fun K hK => ?_) ?_
                · refine step_pushN1 (by rfl) _ _ (by rfl) (by rfl) (na : Int) (by rfl) (by rfl) (by rfl) HR5.out.vs HFI.out HB5.out HL3.out ?_
                  intro v9 w9 ho9 hg9
                  obtain ⟨p9, n9, c9, rfl⟩ := ho9.ns.sl
                  have HP9 := hide (HR5.out.put hg9 ho9)
                  obtain ⟨m11, mf11⟩ := HR5.out.cellPut hg9
                  rw [hbm] at m11 mf11
                  clear ho9 hg9
                  first
                    | refine hK.out _ _ ?_ (fun hHeld => ?_)
                    | (go_wp2_with fail; refine hK.out _ _ ?_ (fun hHeld => ?_))
                  · (try dsimp only)
                    try trivial
                  clear hK K
                  try simp only [Act.put, List.setIfInBounds_toArray, List.set_cons_zero, List.set_cons_succ]
                  refine wpAnyH_take (i := 6) (oi := { dst := some 62, op := Op.fieldAddr 26 (Operand.tmp 4) 11, type := 0, pos := "msg.go:70", after := _, guard := none }) (v := ?_) rfl (by kernel_rfl) (by kernel_rfl) (by kernel_rfl) (fun _ _ _ h => h) (Or.inl ⟨by rfl, ?_⟩) (by assumption) ?_
                  rotate_left
                  · intro w hSw
                    (try dsimp only at hSw)
                    go_simp
                    try with_reducible rfl
                  try simp only [Act.put, List.setIfInBounds_toArray, List.set_cons_zero, List.set_cons_succ]
                  refine wpAnyH_ready (rs := [7]) (by kernel_rfl) (by simp) ?_
                  refine AllReadyH.cons (o := { dst := none, op := Op.store 23 (Operand.tmp 62) (Operand.tmp 61), type := 0, pos := "msg.go:70", after := _, guard := none }) rfl (fun K hK => ?_) ?_
                  · go_simp
                    first
                      | refine hK.out _ _ ?_ (fun hHeld => ?_)
                      | (go_wp2_with fail; refine hK.out _ _ ?_ (fun hHeld => ?_))
                    · (try dsimp only)
                      try trivial
                    clear hK K
                    try simp only [Act.put, List.setIfInBounds_toArray, List.set_cons_zero, List.set_cons_succ]
                    refine wpAnyH_done (by kernel_rfl) ?_ _
                    go_wp2
                    go_roundw
                    case rel =>
                      refine ⟨j + 1, .slice p9 n9 c9, by omega, by go_num, hide ?_⟩
                      rw [HSUC.out]
                      have := HP9.out
                      rw [hbm] at this
                      exact this
                    case measure => simp [intOf]; omega
                  exact AllReadyH.nil
                exact AllReadyH.nil
              exact AllReadyH.nil
            exact AllReadyH.nil
          refine AllReadyH.cons (o := { dst := some 59, op := Op.call { callee := Callee.value (Operand.func 83), args := #[Operand.tmp 58], argTypes := #[111] }, type := 3, pos := "msg.go:70", after := _, guard := none }) rfl (fun K hK => ?_) ?_
          · go_simp
            refine (HN1.out 1).mono ?_
            rintro e w5 ⟨rfl, hs5, hg5⟩
            have HR5 := hide ((HQ.out.drewN 1).call (st' := (aa, Ea)) hs5 hg5)
            have f11 := HR5.out.cell 11 rfl
            rw [hbm] at f11
            have z11 := Lib.cell?_alloc_some (.cells #[.int .i64 na] 3) f11
            have HB5 : Hid (w21.heap.size ≤ w5.heap.size) := hide (Nat.le_trans HQ.out.ch.size hg5.size)
            clear hs5 hg5
            first
              | refine hK.out _ _ ?_ (fun hHeld => ?_)
              | (go_wp2_with fail; refine hK.out _ _ ?_ (fun hHeld => ?_))
            · (try dsimp only)
              try trivial
            clear hK K
            try simp only [Act.put, List.setIfInBounds_toArray, List.set_cons_zero, List.set_cons_succ]
            refine wpAnyH_ready (rs := [1, 4]) (by kernel_rfl) (by simp) ?_
            refine AllReadyH.cons (o := { dst := some 57, op := Op.load 23 (Operand.tmp 56), type := 23, pos := "msg.go:70", after := _, guard := none }) rfl (fun K hK => ?_) ?_
            · go_simp
              first
                | refine hK.out _ _ ?_ (fun hHeld => ?_)
                | (go_wp2_with fail; refine hK.out _ _ ?_ (fun hHeld => ?_))
              · (try dsimp only)
                try trivial
              clear hK K
              try simp only [Act.put, List.setIfInBounds_toArray, List.set_cons_zero, List.set_cons_succ]
              refine wpAnyH_ready (rs := [4]) (by kernel_rfl) (by simp) ?_
              refine AllReadyH.cons (o := { dst := some 60, op := Op.buildSlice 23 1 #[(0, Operand.tmp 59)], type := 23, pos := "msg.go:70", after := _, guard := none }) rfl (fun K hK => ?_) ?_
              · go_simp
                first
                  | refine hK.out _ _ ?_ (fun hHeld => ?_)
                  | (go_wp2_with fail; refine hK.out _ _ ?_ (fun hHeld => ?_))
                · (try dsimp only)
                  try trivial
                clear hK K
                try simp only [Act.put, List.setIfInBounds_toArray, List.set_cons_zero, List.set_cons_succ]
                refine wpAnyH_ready (rs := [5]) (by kernel_rfl) (by simp) ?_
                refine AllReadyH.cons (o := { dst := some 61, op := Op.call { callee := Callee.builtin Builtin.append, args := #[Operand.tmp 57, Operand.tmp 60], argTypes := #[23, 23] }, type := 23, pos := "msg.go:70", after := _, guard := none }) rfl (fun K hK => ?_) ?_
                · refine step_pushN1 (by rfl) _ _ (by rfl) (by rfl) (na : Int) (by rfl) (by rfl) (by rfl) HR5.out.vs HFI.out HB5.out HL3.out ?_
                  intro v9 w9 ho9 hg9
                  obtain ⟨p9, n9, c9, rfl⟩ := ho9.ns.sl
                  have HP9 := hide (HR5.out.put hg9 ho9)
                  obtain ⟨m11, mf11⟩ := HR5.out.cellPut hg9
                  rw [hbm] at m11 mf11
                  clear ho9 hg9
                  first
                    | refine hK.out _ _ ?_ (fun hHeld => ?_)
                    | (go_wp2_with fail; refine hK.out _ _ ?_ (fun hHeld => ?_))
                  · (try dsimp only)
                    try trivial
                  clear hK K
                  try simp only [Act.put, List.setIfInBounds_toArray, List.set_cons_zero, List.set_cons_succ]
                  refine wpAnyH_take (i := 6) (oi := { dst := some 62, op := Op.fieldAddr 26 (Operand.tmp 4) 11, type := 0, pos := "msg.go:70", after := _, guard := none }) (v := ?_) rfl (by kernel_rfl) (by kernel_rfl) (by kernel_rfl) (fun _ _ _ h => h) (Or.inl ⟨by rfl, ?_⟩) (by assumption) ?_
                  rotate_left
                  · intro w hSw
                    (try dsimp only at hSw)
                    go_simp
                    try with_reducible rfl
                  try simp only [Act.put, List.setIfInBounds_toArray, List.set_cons_zero, List.set_cons_succ]
                  refine wpAnyH_ready (rs := [7]) (by kernel_rfl) (by simp) ?_
                  refine AllReadyH.cons (o := { dst := none, op := Op.store 23 (Operand.tmp 62) (Operand.tmp 61), type := 0, pos := "msg.go:70", after := _, guard := none }) rfl (fun K hK => ?_) ?_
                  · go_simp
                    first
                      | refine hK.out _ _ ?_ (fun hHeld => ?_)
                      | (go_wp2_with fail; refine hK.out _ _ ?_ (fun hHeld => ?_))
                    · (try dsimp only)
                      try trivial
                    clear hK K
                    try simp only [Act.put, List.setIfInBounds_toArray, List.set_cons_zero, List.set_cons_succ]
                    refine wpAnyH_done (by kernel_rfl) ?_ _
                    go_wp2
                    go_roundw
                    case rel =>
                      refine ⟨j + 1, .slice p9 n9 c9, by omega, by go_num, hide ?_⟩
                      rw [HSUC.out]
                      have := HP9.out
                      rw [hbm] at this
                      exact this
                    case measure => simp [intOf]; omega
                  exact AllReadyH.nil
                exact AllReadyH.nil
              exact AllReadyH.nil
            refine AllReadyH.cons (o := { dst := some 60, op := Op.buildSlice 23 1 #[(0, Operand.tmp 59)], type := 23, pos := "msg.go:70", after := _, guard := none }) rfl (fun K hK => ?_) ?_
            · go_simp
              first
                | refine hK.out _ _ ?_ (fun hHeld => ?_)
                | (go_wp2_with fail; refine hK.out _ _ ?_ (fun hHeld => ?_))
              · (try dsimp only)
                try trivial
              clear hK K
              try simp only [Act.put, List.setIfInBounds_toArray, List.set_cons_zero, List.set_cons_succ]
              refine wpAnyH_ready (rs := [1]) (by kernel_rfl) (by simp) ?_
              refine AllReadyH.cons (o := { dst := some 57, op := Op.load 23 (Operand.tmp 56), type := 23, pos := "msg.go:70", after := _, guard := none }) rfl (fun K hK => ?_) ?_
              · go_simp
                first
                  | refine hK.out _ _ ?_ (fun hHeld => ?_)
                  | (go_wp2_with fail; refine hK.out _ _ ?_ (fun hHeld => ?_))
                · (try dsimp only)
                  try trivial
                clear hK K
                try simp only [Act.put, List.setIfInBounds_toArray, List.set_cons_zero, List.set_cons_succ]
                refine wpAnyH_ready (rs := [5]) (by kernel_rfl) (by simp) ?_
                refine AllReadyH.cons (o := { dst := some 61, op := Op.call { callee := Callee.builtin Builtin.append, args := #[Operand.tmp 57, Operand.tmp 60], argTypes := #[23, 23] }, type := 23, pos := "msg.go:70", after := _, guard := none }) rfl (fun K hK => ?_) ?_
                · refine step_pushN1 (by rfl) _ _ (by rfl) (by rfl) (na : Int) (by rfl) (by rfl) (by rfl) HR5.out.vs HFI.out HB5.out HL3.out ?_
                  intro v9 w9 ho9 hg9
                  obtain ⟨p9, n9, c9, rfl⟩ := ho9.ns.sl
                  have HP9 := hide (HR5.out.put hg9 ho9)
                  obtain ⟨m11, mf11⟩ := HR5.out.cellPut hg9
                  rw [hbm] at m11 mf11
                  clear ho9 hg9
                  first
                    | refine hK.out _ _ ?_ (fun hHeld => ?_)
                    | (go_wp2_with fail; refine hK.out _ _ ?_ (fun hHeld => ?_))
                  · (try dsimp only)
                    try trivial
                  clear hK K
                  try simp only [Act.put, List.setIfInBounds_toArray, List.set_cons_zero, List.set_cons_succ]
                  refine wpAnyH_take (i := 6) (oi := { dst := some 62, op := Op.fieldAddr 26 (Operand.tmp 4) 11, type := 0, pos := "msg.go:70", after := _, guard := none }) (v := ?_) rfl (by kernel_rfl) (by kernel_rfl) (by kernel_rfl) (fun _ _ _ h => h) (Or.inl ⟨by rfl, ?_⟩) (by assumption) ?_
                  rotate_left
                  · intro w hSw
                    (try dsimp only at hSw)
                    go_simp
                    try with_reducible rfl
                  try simp only [Act.put, List.setIfInBounds_toArray, List.set_cons_zero, List.set_cons_succ]
                  refine wpAnyH_ready (rs := [7]) (by kernel_rfl) (by simp) ?_
                  refine AllReadyH.cons (o := { dst := none, op := Op.store 23 (Operand.tmp 62) (Operand.tmp 61), type := 0, pos := "msg.go:70", after := _, guard := none }) rfl (fun K hK => ?_) ?_
                  · go_simp
                    first
                      | refine hK.out _ _ ?_ (fun hHeld => ?_)
                      | (go_wp2_with fail; refine hK.out _ _ ?_ (fun hHeld => ?_))
                    · (try dsimp only)
                      try trivial
                    clear hK K
                    try simp only [Act.put, List.setIfInBounds_toArray, List.set_cons_zero, List.set_cons_succ]
                    refine wpAnyH_done (by kernel_rfl) ?_ _
                    go_wp2
                    go_roundw
                    case rel =>
                      refine ⟨j + 1, .slice p9 n9 c9, by omega, by go_num, hide ?_⟩
                      rw [HSUC.out]
                      have := HP9.out
                      rw [hbm] at this
                      exact this
                    case measure => simp [intOf]; omega
                  exact AllReadyH.nil
                exact AllReadyH.nil
              exact AllReadyH.nil
            exact AllReadyH.nil
          exact AllReadyH.nil
        · have hjj : j = mv := by omega
          subst hjj
          have hW : rdW l = (V3, st3) := by
            unfold rdW rdV
            rw [HE.out]
            dsimp only
            rw [HV.out]
            dsimp only
            rw [HMV.out, ← hst3, ← hV3]
          have HW := hide hW
          obtain ⟨X, hX⟩ : ∃ X, xl l st3 = X := ⟨_, rfl⟩
          have hD : rdD l = X := by
            unfold rdD
            rw [HW.out]
            exact hX
          have HD := hide hD
          have k31 := text_any (st := st3) HQ.out.sc (HGB2.out _ HQ.out.gr) HNE.out hsl3.1 HL.out
          rw [hX] at k31
          obtain ⟨x, ax, Ex⟩ := X
          dsimp only at k31 HD
          have HSZ2 : Hid (w10.heap.size < wr.heap.size ∧ w10.heap.size < w21.heap.size) := hide ⟨HQ.out.lt, HQ.out.w2⟩
          clear hst3 hV3 hsl3 hW hD hX
          go_wp2_with fail
          refine k31.mono ?_
          rintro e w30 ⟨v30, rfl, ho30, hs30, hg30⟩
          obtain ⟨pd, cd, rfl⟩ := ho30.by_.shape
          have HQ3 := hide (HQ.out.call (st' := (ax, Ex)) hs30 hg30)
          have HO30 := hide ho30
          clear ho30 hs30 hg30 k31
          obtain ⟨V, hV⟩ : ∃ V, w30.setCell ⟨bm, 12, none⟩ (.slice pd x.length cd) = V := ⟨_, rfl⟩
          have c12 := HQ3.out.cell 12 rfl
          have cf12 := HQ3.out.fr 12
          rw [hbm] at c12 cf12
          have hrow := HQ3.out.row
          rw [hbm] at hrow
          have BV := heap_setCell_same w30 bm 12 _ 26 (.slice pd x.length cd) hrow
          simp only [List.setIfInBounds_toArray, List.set_cons_succ, List.set_cons_zero] at BV
          rw [hV] at BV
          have hwb : w.heap.size < bm := by omega
          have RV : V.heap[w.heap.size]? = some (.cells #[.int .i64 0, .int .i64 0, .int .i64 0, .int .i64 0, .int .i64 0, .int .i64 0, .int .i64 0, .int .i64 0, .bool false, .bool false, .slice none 0 0, .slice none 0 0, .slice none 0 0] 26 (0, 0)) := by
            rw [← hV, heap_setCell_other w30 ⟨bm, 12, none⟩ w.heap.size _ (by simp; omega)]
            exact (HQ3.out.gr.block w.heap.size (by omega) (fun e => by injection e with e; omega)).trans R1.out
          have HGV : Hid (w30.grownBy V (some bm)) := hide (by rw [← hV]; exact grown_set _ _ _ _)
          have HVB : Hid (Below w.heap.size w V) := hide (by
            have h1 : Below w.heap.size w w30 := HB10.out.grown HQ3.out.gr HB10.out.size fun k hk => by injection hk with hk; omega
            exact h1.grown HGV.out h1.size fun k hk => by injection hk with hk; omega)
          have v0 := cell_of_row V bm 0 _ 26 (0, 0) BV
          have m0 := cell_of_row V w.heap.size 0 _ 26 (0, 0) RV
          have f0 := frozen_of_row V w.heap.size 0 _ 26 RV
          have v1 := cell_of_row V bm 1 _ 26 (0, 0) BV
          have m1 := cell_of_row V w.heap.size 1 _ 26 (0, 0) RV
          have f1 := frozen_of_row V w.heap.size 1 _ 26 RV
          have v2 := cell_of_row V bm 2 _ 26 (0, 0) BV
          have m2 := cell_of_row V w.heap.size 2 _ 26 (0, 0) RV
          have f2 := frozen_of_row V w.heap.size 2 _ 26 RV
          have v3 := cell_of_row V bm 3 _ 26 (0, 0) BV
          have m3 := cell_of_row V w.heap.size 3 _ 26 (0, 0) RV
          have f3 := frozen_of_row V w.heap.size 3 _ 26 RV
          have v4 := cell_of_row V bm 4 _ 26 (0, 0) BV
          have m4 := cell_of_row V w.heap.size 4 _ 26 (0, 0) RV
          have f4 := frozen_of_row V w.heap.size 4 _ 26 RV
          have v5 := cell_of_row V bm 5 _ 26 (0, 0) BV
          have m5 := cell_of_row V w.heap.size 5 _ 26 (0, 0) RV
          have f5 := frozen_of_row V w.heap.size 5 _ 26 RV
          have v6 := cell_of_row V bm 6 _ 26 (0, 0) BV
          have m6 := cell_of_row V w.heap.size 6 _ 26 (0, 0) RV
          have f6 := frozen_of_row V w.heap.size 6 _ 26 RV
          have v7 := cell_of_row V bm 7 _ 26 (0, 0) BV
          have m7 := cell_of_row V w.heap.size 7 _ 26 (0, 0) RV
          have f7 := frozen_of_row V w.heap.size 7 _ 26 RV
          have v8 := cell_of_row V bm 8 _ 26 (0, 0) BV
          have m8 := cell_of_row V w.heap.size 8 _ 26 (0, 0) RV
          have f8 := frozen_of_row V w.heap.size 8 _ 26 RV
          have v9 := cell_of_row V bm 9 _ 26 (0, 0) BV
          have m9 := cell_of_row V w.heap.size 9 _ 26 (0, 0) RV
          have f9 := frozen_of_row V w.heap.size 9 _ 26 RV
          have v10 := cell_of_row V bm 10 _ 26 (0, 0) BV
          have m10 := cell_of_row V w.heap.size 10 _ 26 (0, 0) RV
          have f10 := frozen_of_row V w.heap.size 10 _ 26 RV
          have v11 := cell_of_row V bm 11 _ 26 (0, 0) BV
          have m11 := cell_of_row V w.heap.size 11 _ 26 (0, 0) RV
          have f11 := frozen_of_row V w.heap.size 11 _ 26 RV
          have v12 := cell_of_row V bm 12 _ 26 (0, 0) BV
          have m12 := cell_of_row V w.heap.size 12 _ 26 (0, 0) RV
          have f12 := frozen_of_row V w.heap.size 12 _ 26 RV
          simp only [List.getElem?_toArray, List.getElem?_cons_succ, List.getElem?_cons_zero] at v0 m0 v1 m1 v2 m2 v3 m3 v4 m4 v5 m5 v6 m6 v7 m7 v8 m8 v9 m9 v10 m10 v11 m11 v12 m12
          have RVH := hide RV
          have HB := hide hbm
          clear RV BV hrow
          go_wp2
          have hs9 := set13 V w.heap.size 26 _ _ _ _ _ _ _ _ _ _ _ _ _ (.int .i64 H.k) (.int .i64 H.f) (.int .i64 H.t) (.int .i64 H.tm) (.int .i64 H.ix) (.int .i64 H.lt) (.int .i64 H.cm) (.int .i64 H.rd) (.bool H.ys) (.bool H.dn) (.slice pe ne ce) (.slice p3 n3' c3) (.slice pd x.length cd) RVH.out
          have hG9 : V.grownBy (((((((((((((V.setCell ⟨w.heap.size, 0, none⟩ (.int .i64 H.k)).setCell ⟨w.heap.size, 1, none⟩ (.int .i64 H.f)).setCell ⟨w.heap.size, 2, none⟩ (.int .i64 H.t)).setCell ⟨w.heap.size, 3, none⟩ (.int .i64 H.tm)).setCell ⟨w.heap.size, 4, none⟩ (.int .i64 H.ix)).setCell ⟨w.heap.size, 5, none⟩ (.int .i64 H.lt)).setCell ⟨w.heap.size, 6, none⟩ (.int .i64 H.cm)).setCell ⟨w.heap.size, 7, none⟩ (.int .i64 H.rd)).setCell ⟨w.heap.size, 8, none⟩ (.bool H.ys)).setCell ⟨w.heap.size, 9, none⟩ (.bool H.dn)).setCell ⟨w.heap.size, 10, none⟩ (.slice pe ne ce)).setCell ⟨w.heap.size, 11, none⟩ (.slice p3 n3' c3)).setCell ⟨w.heap.size, 12, none⟩ (.slice pd x.length cd)) (some w.heap.size) := gtrans (gtrans (gtrans (gtrans (gtrans (gtrans (gtrans (gtrans (gtrans (gtrans (gtrans (gtrans (grown_set V w.heap.size 0 (.int .i64 H.k)) (grown_set _ w.heap.size 1 (.int .i64 H.f))) (grown_set _ w.heap.size 2 (.int .i64 H.t))) (grown_set _ w.heap.size 3 (.int .i64 H.tm))) (grown_set _ w.heap.size 4 (.int .i64 H.ix))) (grown_set _ w.heap.size 5 (.int .i64 H.lt))) (grown_set _ w.heap.size 6 (.int .i64 H.cm))) (grown_set _ w.heap.size 7 (.int .i64 H.rd))) (grown_set _ w.heap.size 8 (.bool H.ys))) (grown_set _ w.heap.size 9 (.bool H.dn))) (grown_set _ w.heap.size 10 (.slice pe ne ce))) (grown_set _ w.heap.size 11 (.slice p3 n3' c3))) (grown_set _ w.heap.size 12 (.slice pd x.length cd))
          obtain ⟨W9, hW9⟩ : ∃ W9, (((((((((((((V.setCell ⟨w.heap.size, 0, none⟩ (.int .i64 H.k)).setCell ⟨w.heap.size, 1, none⟩ (.int .i64 H.f)).setCell ⟨w.heap.size, 2, none⟩ (.int .i64 H.t)).setCell ⟨w.heap.size, 3, none⟩ (.int .i64 H.tm)).setCell ⟨w.heap.size, 4, none⟩ (.int .i64 H.ix)).setCell ⟨w.heap.size, 5, none⟩ (.int .i64 H.lt)).setCell ⟨w.heap.size, 6, none⟩ (.int .i64 H.cm)).setCell ⟨w.heap.size, 7, none⟩ (.int .i64 H.rd)).setCell ⟨w.heap.size, 8, none⟩ (.bool H.ys)).setCell ⟨w.heap.size, 9, none⟩ (.bool H.dn)).setCell ⟨w.heap.size, 10, none⟩ (.slice pe ne ce)).setCell ⟨w.heap.size, 11, none⟩ (.slice p3 n3' c3)).setCell ⟨w.heap.size, 12, none⟩ (.slice pd x.length cd)) = W9 := ⟨_, rfl⟩
          rw [hW9] at hs9 hG9 ⊢
          clear hW9
          have n0_ := cell_of_row W9 w.heap.size 0 _ 26 (0, 0) hs9
          have n1_ := cell_of_row W9 w.heap.size 1 _ 26 (0, 0) hs9
          have n2_ := cell_of_row W9 w.heap.size 2 _ 26 (0, 0) hs9
          have n3_ := cell_of_row W9 w.heap.size 3 _ 26 (0, 0) hs9
          have n4_ := cell_of_row W9 w.heap.size 4 _ 26 (0, 0) hs9
          have n5_ := cell_of_row W9 w.heap.size 5 _ 26 (0, 0) hs9
          have n6_ := cell_of_row W9 w.heap.size 6 _ 26 (0, 0) hs9
          have n7_ := cell_of_row W9 w.heap.size 7 _ 26 (0, 0) hs9
          have n8_ := cell_of_row W9 w.heap.size 8 _ 26 (0, 0) hs9
          have n9_ := cell_of_row W9 w.heap.size 9 _ 26 (0, 0) hs9
          have n10_ := cell_of_row W9 w.heap.size 10 _ 26 (0, 0) hs9
          have n11_ := cell_of_row W9 w.heap.size 11 _ 26 (0, 0) hs9
          have n12_ := cell_of_row W9 w.heap.size 12 _ 26 (0, 0) hs9
          simp only [List.getElem?_toArray, List.getElem?_cons_succ, List.getElem?_cons_zero] at n0_ n1_ n2_ n3_ n4_ n5_ n6_ n7_ n8_ n9_ n10_ n11_ n12_
          have hz9 : w.heap.size < W9.heap.size := lt_of_cell n0_
          have HG9 := hide hG9
          clear hs9 hG9
          have hbb : w10.heap.size = bm := HB.out
          have hRP : readP l = { H with es := L, vs := V3, d := x } := by
            unfold readP
            rw [HHH.out, HE.out, HW.out, HD.out, ← HHD.out]
          have hMO : MsO w.heap.size W9 { H with es := L, vs := V3, d := x } (.slice pe ne ce) (.slice p3 n3' c3) (.slice pd x.length cd) := by
            refine ⟨?_, ?_, ?_, ?_⟩
            · exact ((HQ3.out.ens.grownLt HGV.out (by omega)).grownLt HG9.out (by omega)).mono (by omega)
            · exact ((HQ3.out.vs.grownLt HGV.out (by have := HSZ2.out; omega)).grownLt HG9.out (by have := HSZ2.out; omega)).mono (by have := HSZ2.out; omega)
            · exact ((HO30.out.grownLt HGV.out (by have := HSZ2.out; omega)).grownLt HG9.out (by have := HSZ2.out; omega)).mono (by have := HSZ2.out; omega)
            · have h1 := HF.out
              rw [HHH.out, HHD.out] at h1
              exact h1
          refine bodyPost_ret (v := .agg #[.int .i64 H.k, .int .i64 H.f, .int .i64 H.t, .int .i64 H.tm, .int .i64 H.ix, .int .i64 H.lt, .int .i64 H.cm, .int .i64 H.rd, .bool H.ys, .bool H.dn, .slice pe ne ce, .slice p3 n3' c3, .slice pd x.length cd]) (by simp [results, Try.results52, go_sem, n0_, n1_, n2_, n3_, n4_, n5_, n6_, n7_, n8_, n9_, n10_, n11_, n12_, hz9]) rfl ⟨.slice pe ne ce, .slice p3 n3' c3, .slice pd x.length cd, ?_, ?_, ?_⟩

          · rw [hRP]
            rfl
          · rw [hRP]
            exact hMO
          · exact HVB.out.grown HG9.out HVB.out.size fun k hk => by injection hk with hk; omega
end Go.Proofs.Ytiiollgipfggmaa
