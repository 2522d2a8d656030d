/- The law LedgerNobody. -/
import Derived.Test.YtfbkgnkgpbpphaaLNob
namespace Go.Proofs.Ytfbkgnkgpbpphaa
set_option linter.unusedVariables false
set_option linter.unusedSimpArgs false
open Go.RowKit

theorem box4 (w : World) (a b c d : Value) (t : TypeId) : (w.alloc (.cells #[a, b, c, d] t)).cell? ⟨w.heap.size, 0, none⟩ = some a ∧ (w.alloc (.cells #[a, b, c, d] t)).cell? ⟨w.heap.size, 1, none⟩ = some b ∧ (w.alloc (.cells #[a, b, c, d] t)).cell? ⟨w.heap.size, 2, none⟩ = some c ∧ (w.alloc (.cells #[a, b, c, d] t)).cell? ⟨w.heap.size, 3, none⟩ = some d := by
  refine ⟨?_, ?_, ?_, ?_⟩ <;> (rw [cell_of_row _ w.heap.size _ _ _ (0, 0) (heap_alloc_new w _)]; rfl)
theorem box2 (w : World) (a b : Value) (t : TypeId) : (w.alloc (.cells #[a, b] t)).cell? ⟨w.heap.size, 0, none⟩ = some a ∧ (w.alloc (.cells #[a, b] t)).cell? ⟨w.heap.size, 1, none⟩ = some b := by
  refine ⟨?_, ?_⟩ <;> (rw [cell_of_row _ w.heap.size _ _ _ (0, 0) (heap_alloc_new w _)]; rfl)
set_option maxRecDepth 200000 in
set_option maxHeartbeats 4000000 in
theorem lawNobody_any {w : World} {op nn tm : Int} {p : Option Addr} {n c : Nat} {L : List En} (hv : Ens w (.slice p n c) L) (hsz : L.length * 40 ≤ 140737488351232) : Calls Try.prog 12 #[.agg #[.int .i64 op, .int .i64 nn, .int .i64 tm, .slice p n c]] w (Good w) := by
  have HAW := hide awake_any
  have b1 : Below w.heap.size w (w.alloc (.cells #[.int .i64 op, .int .i64 nn, .int .i64 tm, .slice p n c] 45)) := (Below.refl _ _).alloc (Nat.le_refl _) _
  have hcs := box4 w (.int .i64 op) (.int .i64 nn) (.int .i64 tm) (.slice p n c) 45
  obtain ⟨X, hX⟩ : ∃ X, w.alloc (.cells #[.int .i64 op, .int .i64 nn, .int .i64 tm, .slice p n c] 45) = X := ⟨_, rfl⟩
  rw [hX] at b1 hcs
  have b2 : Below X.heap.size X (X.alloc (.cells #[.slice p n c] 22)) := (Below.refl _ _).alloc (Nat.le_refl _) _
  have HL := hide (light1 (hv.below b1) hsz)
  have HBW := hide (b1.trans (b2.mono b1.size))
  have HX : Hid (∀ V, Below X.heap.size X V → V.cell? ⟨w.heap.size, 1, none⟩ = some (.int .i64 nn) ∧ V.cell? ⟨w.heap.size, 2, none⟩ = some (.int .i64 tm) ∧ V.cell? ⟨w.heap.size, 3, none⟩ = some (.slice p n c)) := hide fun V hV => ⟨(hV.cell (lt_of_cell hcs.2.1)).trans hcs.2.1, (hV.cell (lt_of_cell hcs.2.2.1)).trans hcs.2.2.1, (hV.cell (lt_of_cell hcs.2.2.2)).trans hcs.2.2.2⟩
  have z3 := hcs.2.2.2
  obtain ⟨Y, hY⟩ : ∃ Y, X.alloc (.cells #[.slice p n c] 22) = Y := ⟨_, rfl⟩
  obtain ⟨q, hq⟩ : ∃ q, lightL [L] = q := ⟨_, rfl⟩
  rw [hY] at HL HBW b2
  rw [hq] at HL
  have HX2 := hide b2
  clear b1 b2 hq hv hsz hcs
  go_enter Try.func12, Try.ntmps12
  cases q
  · go_wp2_with fail
    refine HL.out.mono ?_
    rintro e w9 ⟨rfl, rfl⟩
    go_wp2_with fail
    refine (HAW.out _).mono ?_
    rintro e wz ⟨rfl, hbz⟩
    have HBZ := hide (HBW.out.trans (hbz.mono HBW.out.size))
    clear hbz
    go_wp2
    go_ret
    exact ⟨rfl, HBZ.out⟩
  · go_wp2_with fail
    refine HL.out.mono ?_
    rintro e w9 ⟨rfl, rfl⟩
    clear z3
    have b3 : Below Y.heap.size Y (Y.alloc (.cells #[.int .i64 0, .int .i64 0, .slice none 0 0, .bool false] 71)) := (Below.refl _ _).alloc (Nat.le_refl _) _
    have hc3 := box4 Y (.int .i64 0) (.int .i64 0) (.slice none 0 0) (.bool false) 71
    obtain ⟨Z, hZ⟩ : ∃ Z, Y.alloc (.cells #[.int .i64 0, .int .i64 0, .slice none 0 0, .bool false] 71) = Z := ⟨_, rfl⟩
    rw [hZ] at b3 hc3
    have b4 : Below Z.heap.size Z (Z.alloc (.cells #[.pointer none, .pointer (some ⟨Y.heap.size, 0, none⟩)] 27)) := (Below.refl _ _).alloc (Nat.le_refl _) _
    have hc4 := box2 Z (.pointer none) (.pointer (some ⟨Y.heap.size, 0, none⟩)) 27
    obtain ⟨U, hU⟩ : ∃ U, Z.alloc (.cells #[.pointer none, .pointer (some ⟨Y.heap.size, 0, none⟩)] 27) = U := ⟨_, rfl⟩
    rw [hU] at b4 hc4
    have HZU := hide b4
    have HBU : Hid (Below w.heap.size w U) := hide (HBW.out.trans ((b3.trans (b4.mono b3.size)).mono HBW.out.size))
    have HXU : Hid (Below X.heap.size X U) := hide (HX2.out.trans ((b3.trans (b4.mono b3.size)).mono HX2.out.size))
    have HG : Hid (∀ (V : World) (k : Nat), Below U.heap.size U V → k < 2 → ∃ v, V.cell? ⟨Z.heap.size, k, none⟩ = some v ∧ ∀ V', Below U.heap.size U V' → Nob V' v) := hide fun V k hV hk => by
      have e3 := hc3.2.2.2
      rcases k with _ | _ | k
      · exact ⟨_, (hV.cell (lt_of_cell hc4.1)).trans hc4.1, fun V' _ => .inl rfl⟩
      · exact ⟨_, (hV.cell (lt_of_cell hc4.2)).trans hc4.2, fun V' hV' => .inr ⟨_, rfl, (hV'.cell (lt_of_cell ((HZU.out.cell (lt_of_cell e3)).trans e3))).trans ((HZU.out.cell (lt_of_cell e3)).trans e3)⟩⟩
      · omega
    obtain ⟨gz, hgz⟩ : ∃ gz, Z.heap.size = gz := ⟨_, rfl⟩
    rw [hgz] at HG
    clear b3 b4 hc3 hc4
    go_wp2_with fail
    go_loopw [24] (fun i wr => ∃ k : Nat, k ≤ 2 ∧ i = .int .i64 k ∧ Hid (Below U.heap.size U wr)) (fun i _ => 2 - (intOf i).toNat)
    case atStart => exact ⟨0, by omega, rfl, hide (Below.refl _ _)⟩
    case round =>
      obtain ⟨k, hk, rfl, HR⟩ := hrel
      by_cases hlt : k < 2
      · obtain ⟨v, hcv, hnb⟩ := HG.out wr k HR.out hlt
        have HN := hide hnb
        have HCELL : Hid (∀ V, Below U.heap.size U V → V.cell? ⟨w.heap.size, 1, none⟩ = some (.int .i64 nn) ∧ V.cell? ⟨w.heap.size, 2, none⟩ = some (.int .i64 tm) ∧ V.cell? ⟨w.heap.size, 3, none⟩ = some (.slice p n c)) := hide fun V hV => HX.out V (HXU.out.trans (hV.mono HXU.out.size))
        clear hnb
        go_wp2_with fail
        refine (noBase_any (HN.out _ HR.out) ).mono ?_
        rintro e x0 ⟨rfl, hb0⟩
        have HB0 : Hid (Below U.heap.size U x0) := hide (HR.out.trans (hb0.mono HR.out.size))
        clear hb0
        obtain ⟨k1, k2, k3⟩ := HCELL.out _ HB0.out
        go_wp2_with fail
        refine (noLast_any (HN.out _ HB0.out) ).mono ?_
        rintro e x1 ⟨rfl, hb1⟩
        have HB1 : Hid (Below U.heap.size U x1) := hide (HB0.out.trans (hb1.mono HB0.out.size))
        clear hb1 k1 k2 k3
        obtain ⟨k1, k2, k3⟩ := HCELL.out _ HB1.out
        go_wp2_with fail
        refine (noTerm_any (HN.out _ HB1.out) nn).mono ?_
        rintro e x2 ⟨rfl, hb2⟩
        have HB2 : Hid (Below U.heap.size U x2) := hide (HB1.out.trans (hb2.mono HB1.out.size))
        clear hb2 k1 k2 k3
        obtain ⟨k1, k2, k3⟩ := HCELL.out _ HB2.out
        go_wp2_with fail
        refine (noMerge_any (HN.out _ HB2.out) nn tm (.slice p n c)).mono ?_
        rintro e x3 ⟨rfl, hb3⟩
        have HB3 : Hid (Below U.heap.size U x3) := hide (HB2.out.trans (hb3.mono HB2.out.size))
        clear hb3 k1 k2 k3
        obtain ⟨k1, k2, k3⟩ := HCELL.out _ HB3.out
        go_wp2_with fail
        refine (noFrom_any (HN.out _ HB3.out) nn 9).mono ?_
        rintro e x4 ⟨rfl, hb4⟩
        have HB4 : Hid (Below U.heap.size U x4) := hide (HB3.out.trans (hb4.mono HB3.out.size))
        clear hb4 k1 k2 k3
        obtain ⟨k1, k2, k3⟩ := HCELL.out _ HB4.out
        go_wp2_with fail
        refine (noFresh_any (HN.out _ HB4.out) nn tm).mono ?_
        rintro e x5 ⟨rfl, hb5⟩
        have HB5 : Hid (Below U.heap.size U x5) := hide (HB4.out.trans (hb5.mono HB4.out.size))
        clear hb5 k1 k2 k3
        obtain ⟨k1, k2, k3⟩ := HCELL.out _ HB5.out
        go_wp2_with fail
        refine (noHint_any (HN.out _ HB5.out) nn).mono ?_
        rintro e x6 ⟨rfl, hb6⟩
        have HB6 : Hid (Below U.heap.size U x6) := hide (HB5.out.trans (hb6.mono HB5.out.size))
        clear hb6 k1 k2 k3
        obtain ⟨k1, k2, k3⟩ := HCELL.out _ HB6.out
        go_wp2_with fail
        refine (noClone_any (HN.out _ HB6.out) ).mono ?_
        rintro e x7 ⟨rfl, hb7⟩
        have HB7 : Hid (Below U.heap.size U x7) := hide (HB6.out.trans (hb7.mono HB6.out.size))
        clear hb7 k1 k2 k3
        obtain ⟨k1, k2, k3⟩ := HCELL.out _ HB7.out
        go_wp2_with fail
        refine (noAdd_any (HN.out _ HB7.out) (.slice p n c)).mono ?_
        rintro e x8 ⟨rfl, hb8⟩
        have HB8 : Hid (Below U.heap.size U x8) := hide (HB7.out.trans (hb8.mono HB7.out.size))
        clear hb8 k1 k2 k3
        obtain ⟨k1, k2, k3⟩ := HCELL.out _ HB8.out
        go_wp2_with fail
        refine (noCut_any (HN.out _ HB8.out) nn).mono ?_
        rintro e x9 ⟨rfl, hb9⟩
        have HB9 : Hid (Below U.heap.size U x9) := hide (HB8.out.trans (hb9.mono HB8.out.size))
        clear hb9 k1 k2 k3
        obtain ⟨k1, k2, k3⟩ := HCELL.out _ HB9.out
        go_wp2_with fail
        refine (noRebase_any (HN.out _ HB9.out) nn tm).mono ?_
        rintro e x10 ⟨rfl, hb10⟩
        have HB10 : Hid (Below U.heap.size U x10) := hide (HB9.out.trans (hb10.mono HB9.out.size))
        clear hb10 k1 k2 k3
        obtain ⟨k1, k2, k3⟩ := HCELL.out _ HB10.out
        clear k1 k2 k3
        go_wp2
        go_roundw
        case rel => exact ⟨k + 1, by omega, by go_num, hide (HB10.out)⟩
        case measure => simp [intOf]; omega
      · have hk2 : k = 2 := by omega
        subst hk2
        have HBE := hide (HBU.out.trans (HR.out.mono HBU.out.size))
        go_wp2_with fail
        refine (HAW.out _).mono ?_
        rintro e wz ⟨rfl, hbz⟩
        have HBZ := hide (HBE.out.trans (hbz.mono HBE.out.size))
        clear hbz
        go_wp2
        go_ret
        exact ⟨rfl, HBZ.out⟩
end Go.Proofs.Ytfbkgnkgpbpphaa
