/- Two disks that are seen alike. -/
import Derived.Test.YthcakinkioniaabDNamed
namespace Go.Proofs.Ythcakinkioniaab
open Go.RowKit Go.Maps Go.Sort

theorem row_cell {w : World} {B n : Nat} {g c : Nat} {xs : List Value} (h : w.ownsRow B 9 1 (.slice (some ⟨g, 0, none⟩) n c) n xs) {i : Nat} {v : Value} (hv : xs[i]? = some v) : w.cell? ⟨g, i, none⟩ = some v := by
  rcases h.2 with ⟨e, _⟩ | ⟨g', cap, cur, e, _, hg, _, _, _, h5⟩
  · cases e
  · injection e with e1 e2 e3
    injection e1 with e1
    injection e1 with e1
    subst e1
    rw [cell_of_row w g i cur 9 (0, 0) hg]
    rw [← h5, List.getElem?_take] at hv
    split at hv
    · simpa using hv
    · cases hv

def mkB (k : List UInt8) : ByteArray := ⟨k.toArray⟩
theorem enc_mk (k : List UInt8) : encStr k = .string (mkB k) := rfl
theorem mkB_data (k : List UInt8) : (mkB k).data.toList = k := rfl

theorem namesEqual_any {W : World} {B1 B2 : Nat} {v1 v2 : Value} {L : List (List UInt8)} (h1 : W.ownsRow B1 9 1 v1 L.length (L.map encStr)) (h2 : W.ownsRow B2 9 1 v2 L.length (L.map encStr)) (hl : L.length ≤ 1000000) :
    Calls Try.prog 35 #[v1, v2] W fun e w' => e = .returned (.bool true) ∧ Chg W w' (fun _ => False) := by
  obtain ⟨p1, c1, rfl⟩ := row_sl h1
  obtain ⟨p2, c2, rfl⟩ := row_sl h2
  rcases Nat.eq_zero_or_pos L.length with h0 | h0
  · rw [h0]
    refine (Try.slices_Equal_string_empty p1 p2 c1 0 c2 W (by omega)).mono ?_
    rintro e w' ⟨rfl, rfl⟩
    exact ⟨rfl, Chg.refl _ _⟩
  · have hp : ∀ {B : Nat} {p : Option Addr} {c : Nat}, W.ownsRow B 9 1 (.slice p L.length c) L.length (L.map encStr) → ∃ g, p = some ⟨g, 0, none⟩ := fun {B p c} h => by
      rcases h.2 with ⟨_, h2⟩ | ⟨g, cap, cur, e, _⟩
      · omega
      · injection e with e1 e2 e3
        exact ⟨g, e1⟩
    obtain ⟨g1, rfl⟩ := hp h1
    obtain ⟨g2, rfl⟩ := hp h2
    have hc : ∀ {B g c : Nat}, W.ownsRow B 9 1 (.slice (some ⟨g, 0, none⟩) L.length c) L.length (L.map encStr) → ∀ j, j < (L.map mkB).length → W.cell? ⟨g, 0 + j, none⟩ = some (.string ((L.map mkB).getD j ByteArray.empty)) := fun {B g c} h j hj => by
      rw [List.length_map] at hj
      rw [Nat.zero_add]
      refine row_cell h ?_
      rw [List.getElem?_map, List.getElem?_eq_getElem hj, List.getD_eq_getElem?_getD, List.getElem?_map, List.getElem?_eq_getElem hj]
      rfl
    refine (Try.slices_Equal_string g1 0 L.length c1 g2 0 L.length c2 (L.map mkB) (L.map mkB) W (by simp) (by simp) (by omega) (by omega) (hc h1) (hc h2)).mono ?_
    rintro e w' ⟨rfl, q, rfl⟩
    exact ⟨by simp, (Chg.refl _ _).drewN q⟩

set_option maxRecDepth 200000 in
set_option maxHeartbeats 4000000 in
theorem same_any {w0 w : World} {g1 g2 : Nat} {s1 s2 : Dk} (h : Two w0 w g1 s1 g2 s2) (hn : s1.Named) (hd : s1.down = s2.down) (hs : s1.seen = s2.seen) :
    Calls Try.prog 16 #[.pointer (some ⟨g1, 0, none⟩), .pointer (some ⟨g2, 0, none⟩)] w fun e w' => e = .returned (.bool true) ∧ Chg w w' (fun _ => False) := by
  have hnames : s2.names = s1.names := by unfold Dk.names; rw [hd, hs]
  have hre : ∀ k, s2.readE k = s1.readE k := fun k => by unfold Dk.readE; rw [hd, hs]
  have hrb : ∀ k, s2.readB k = s1.readB k := fun k => by unfold Dk.readB; rw [hd, hs]
  have hlen : s1.names.length ≤ 4096 := by
    have h1 := seen_few h.one.ok
    unfold Dk.names
    split
    · simp
    · simpa using h1
  have HT := hide h
  have HNM := hide hn
  clear hn hd hs h
  obtain ⟨L, hL⟩ : ∃ L, L = s1.names := ⟨_, rfl⟩
  obtain ⟨n, hn⟩ : ∃ n, n = L.length := ⟨_, rfl⟩
  have hni : (n : Int) ≤ 4096 := by rw [← hL] at hlen; omega
  go_enter Try.func16, Try.ntmps16
  go_wp2_with fail
  refine (list_own HT.out.one).mono ?_
  rintro e w1 ⟨v1, rfl, hr1, hc1, _⟩
  rw [← hL, ← hn] at hr1
  obtain ⟨p1, c1, rfl⟩ := row_sl hr1
  have HR1 := hide hr1
  have HC1 := hide hc1
  clear hr1 hc1
  have HN := hide hn
  have HLN := hide hL
  clear hn hL
  go_wp2_with fail
  refine (list_own (HT.out.chg HC1.out).swap.one).mono ?_
  rintro e w2 ⟨v2, rfl, hr2, hc2, _⟩
  rw [hnames, ← HLN.out, ← HN.out] at hr2
  obtain ⟨p2, c2, rfl⟩ := row_sl hr2
  have hr1' := row_chg HR1.out hc2 fun _ _ h => h
  rw [HN.out] at hr2 hr1'
  have heq := namesEqual_any hr1' hr2 (by have := HN.out; omega)
  rw [← HN.out] at heq
  have HEQ := hide heq
  have HC2 := hide (HC1.out.trans hc2 fun _ h => .inl h)
  have HC2' := hide hc2
  clear heq hr2 hr1' hc2
  go_wp2_with fail
  refine HEQ.out.mono ?_
  rintro e w3 ⟨rfl, hc3⟩
  have HC3 := hide (HC2.out.trans hc3 fun _ h => .inl h)
  have HROW := hide (row_chg (row_chg HR1.out HC2'.out fun _ _ h => h) hc3 fun _ _ h => h)
  clear hc3
  go_wp2_with fail
  go_loopw [21] (fun i wr => ∃ k : Nat, k ≤ n ∧ i = .int .i64 k ∧ Chg w wr (fun _ => False) ∧ wr.ownsRow w.heap.size 9 1 (.slice p1 n c1) n (L.map encStr)) (fun i _ => n - (intOf i).toNat)
  case atStart => exact ⟨0, by omega, rfl, HC3.out, HROW.out⟩
  case round =>
    obtain ⟨k, hk, rfl, hcw, hrow⟩ := hrel
    have HCW := hide hcw
    clear hcw
    by_cases hkn : (k : Int) < (n : Int)
    · obtain ⟨g, rfl⟩ : ∃ g, p1 = some ⟨g, 0, none⟩ := by
        rcases hrow.2 with ⟨_, h2⟩ | ⟨g, cap, cur, e, _⟩
        · omega
        · injection e with e1 e2 e3
          exact ⟨g, e1⟩
      obtain ⟨x, hx⟩ : ∃ x, L[k]? = some x := ⟨L[k]'(by have := HN.out; omega), List.getElem?_eq_getElem _⟩
      have hcell : wr.cell? ⟨g, k, none⟩ = some (.string (mkB x)) := row_cell hrow (by rw [List.getElem?_map, hx]; rfl)
      have hxs : (mkB x).size ≤ maxLen := by
        have h1 := okN_len (names_okN HNM.out (k := x) (by rw [← HLN.out]; exact List.mem_of_getElem? hx))
        show x.toArray.size ≤ maxLen
        unfold maxLen
        simp
        omega
      have HROW2 := hide hrow
      have hki : (k : Int) ≤ 4096 := by omega
      clear hrow
      go_wp2_with fail
      refine (read_own (HT.out.chg HCW.out).one hxs).mono ?_
      rintro e w4 ⟨v4, rfl, hr4, hc4, _⟩
      obtain ⟨q4, n4, c4, rfl⟩ := (by_row (row_mono hr4)).sl
      have HR4 := hide hr4
      have HC4 := hide (HCW.out.trans hc4 fun _ h => .inl h)
      have HC4' := hide hc4
      clear hr4 hc4
      go_wp2_with fail
      refine (read_own (HT.out.chg HC4.out).swap.one hxs).mono ?_
      rintro e w5 ⟨v5, rfl, hr5, hc5, _⟩
      rw [hre]
      obtain ⟨q5, n5, c5, rfl⟩ := (by_row (row_mono hr5)).sl
      have HEQ := hide (equal_any ((by_row (row_mono HR4.out)).chg hc5 (.inr fun _ _ h => h)) (by_row (row_mono hr5)))
      have HC5 := hide (HC4.out.trans hc5 fun _ h => .inl h)
      have HROW5 := hide (row_chg (row_chg HROW2.out HC4'.out fun _ _ h => h) hc5 fun _ _ h => h)
      obtain ⟨E, hE⟩ : ∃ E, E = s1.readE (mkB x).data.toList := ⟨_, rfl⟩
      rw [← hE]
      clear hr5 hc5 hE
      go_wp2_with fail
      refine HEQ.out.mono ?_
      rintro e w6 ⟨rfl, rfl⟩
      rw [show (s1.readB (mkB x).data.toList == s2.readB (mkB x).data.toList) = true from beq_iff_eq.2 (hrb _).symm]
      go_wp2
      go_roundw
      case rel => exact ⟨k + 1, by omega, by go_num, HC5.out, HROW5.out⟩
      case measure => simp [intOf]; omega
    · clear hrow
      go_wp2
      go_ret
      exact ⟨rfl, HCW.out⟩
end Go.Proofs.Ythcakinkioniaab
