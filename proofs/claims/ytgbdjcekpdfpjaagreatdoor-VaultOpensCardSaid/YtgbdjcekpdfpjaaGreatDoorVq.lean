/- Several texts made one. -/
import Derived.Test.YtgbdjcekpdfpjaaGreatDoorDDoes
import Derived.Test.YtgbdjcekpdfpjaaGreatDoorRdCalls
import Derived.Test.YtgbdjcekpdfpjaaGreatDoorVrOpen
import Derived.Test.YtgbdjcekpdfpjaaGreatDoorDc
set_option linter.unusedVariables false
set_option linter.unusedSimpArgs false
namespace Go.Proofs.YtgbdjcekpdfpjaaGreatDoor
open Go.RowKit Go.Maps Go.Sort
theorem row_slN {w : World} {B n s : Nat} {e : TypeId} {v : Value} {xs : List Value} (h : w.ownsRow B e s v n xs) : ∃ q c, v = .slice q n c := by
 rcases h.2 with ⟨rfl, h2⟩ | ⟨g, cap, cur, rfl, _⟩
 ·exact ⟨none, 0, by rw [h2]⟩
 ·exact ⟨_, _, rfl⟩
theorem row_cell {w : World} {B n : Nat} {g c : Nat} {xs : List Value} (h : w.ownsRow B 9 1 (.slice (some ⟨g, 0, none⟩) n c) n xs) {i : Nat} {v : Value} (hv : xs[i]? = some v) : w.cell? ⟨g, i, none⟩ = some v := by
 rcases h.2 with ⟨e, _⟩ | ⟨g', cap, cur, e, _, hg, _, _, _, h5⟩
 ·cases e
 ·injection e with e1 e2 e3
  injection e1 with e1
  injection e1 with e1
  subst e1
  rw [cell_of_row w g i cur 9 (0, 0) hg]
  rw [← h5, List.getElem?_take] at hv
  split at hv
  ·simpa using hv
  ·cases hv
def mkB (k : List UInt8) : ByteArray := ⟨k.toArray⟩
theorem namesEqual_any {W : World} {B1 B2 : Nat} {v1 v2 : Value} {L : List (List UInt8)} (h1 : W.ownsRow B1 9 1 v1 L.length (L.map encStr)) (h2 : W.ownsRow B2 9 1 v2 L.length (L.map encStr)) (hl : L.length ≤ 1000000) :
  Calls Tryz.prog 67 #[v1, v2] W fun e w' => e = .returned (.bool true) ∧ Chg W w' (fun _ => False) := by
 obtain ⟨p1, c1, rfl⟩ := row_slN h1
 obtain ⟨p2, c2, rfl⟩ := row_slN h2
 rcases Nat.eq_zero_or_pos L.length with h0 | h0
 ·rw [h0]
  refine (Tryz.slices_Equal_string_empty p1 p2 c1 0 c2 W (by omega)).mono ?_
  rintro e w' ⟨rfl, rfl⟩
  exact ⟨rfl, Chg.refl _ _⟩
 ·have hp : ∀ {B : Nat} {p : Option Addr} {c : Nat}, W.ownsRow B 9 1 (.slice p L.length c) L.length (L.map encStr) → ∃ g, p = some ⟨g, 0, none⟩ := fun {B p c} h => by
   rcases h.2 with ⟨_, h2⟩ | ⟨g, cap, cur, e, _⟩
   ·omega
   ·injection e with e1 e2 e3
    exact ⟨g, e1⟩
  obtain ⟨g1, rfl⟩ := hp h1
  obtain ⟨g2, rfl⟩ := hp h2
  have hc : ∀ {B g c : Nat}, W.ownsRow B 9 1 (.slice (some ⟨g, 0, none⟩) L.length c) L.length (L.map encStr) → ∀ j, j < (L.map mkB).length → W.cell? ⟨g, 0 + j, none⟩ = some (.string ((L.map mkB).getD j ByteArray.empty)) := fun {B g c} h j hj => by
   rw [List.length_map] at hj
   rw [Nat.zero_add]
   refine row_cell h ?_
   rw [List.getElem?_map, List.getElem?_eq_getElem hj, List.getD_eq_getElem?_getD, List.getElem?_map, List.getElem?_eq_getElem hj]
   rfl
  refine (Tryz.slices_Equal_string g1 0 L.length c1 g2 0 L.length c2 (L.map mkB) (L.map mkB) W (by simp) (by simp) (by omega) (by omega) (hc h1) (hc h2)).mono ?_
  rintro e w' ⟨rfl, q, rfl⟩
  exact ⟨by simp, (Chg.refl _ _).drewN q⟩
end Go.Proofs.YtgbdjcekpdfpjaaGreatDoor
namespace Go.Proofs.YtgbdjcekpdfpjaaGreatDoor
open Go.RowKit
set_option maxRecDepth 200000 in
set_option maxHeartbeats 16000000 in
theorem valike_any {w : World} {S C Z R : Nat → Prop} {g x : Nat} {t : Dk} (h1 : DiskIs w S C g t) (h2 : Rq w Z R x t) (hn : AllOk t.seen) :
  Calls Tryz.prog 27 #[.pointer (some ⟨g, 0, none⟩), .pointer (some ⟨x, 0, none⟩)] w fun e w' => e = .returned (.bool true) ∧ Chg w w' (fun _ => False) := by
 have HD := hide (fun V (hV : Chg w V (fun _ => False)) => h1.chg hV (fun _ _ h => h) fun _ _ h => h)
 have HR := hide (fun V (hV : Chg w V (fun _ => False)) => h2.at hV)
 obtain ⟨L, hL⟩ : ∃ L, t.names = L := ⟨_, rfl⟩
 obtain ⟨n, hnn⟩ : ∃ n, L.length = n := ⟨_, rfl⟩
 have hni : n ≤ 4096 := by rw [← hnn, ← hL]; exact names_few h2.ok
 have HLO := hide (show ∀ y ∈ L, okN y = true from fun y hy => by
  rw [← hL] at hy
  unfold Dk.names at hy
  split at hy
  ·cases hy
  ·obtain ⟨q, hq, rfl⟩ := List.mem_map.1 hy
   exact hn q hq)
 have HL := hide hL
 have HN := hide hnn
 clear h1 h2 hn hL hnn
 go_enter Tryz.func27, Tryz.ntmps27
 go_wp2_with fail
 refine (list_call (HD.out w (Chg.refl _ _))).mono ?_
 rintro e w1 ⟨v1, rfl, hr1, hb1⟩
 rw [HL.out, HN.out] at hr1
 obtain ⟨p1, m1, c1, rfl⟩ := row_sl' hr1
 have HR1 := hide hr1
 have HC1 := hide (Chg.of_below hb1 (fun _ => False))
 clear hr1 hb1
 go_wp2_with fail
 refine (rlist_any (HR.out w1 HC1.out)).mono ?_
 rintro e w2 ⟨v2, rfl, hr2, hc2⟩
 rw [HL.out, HN.out] at hr2
 obtain ⟨p2, m2, c2, rfl⟩ := row_sl' hr2
 have heq := namesEqual_any (L := L) (by rw [HN.out]; exact row_chg HR1.out hc2 fun _ _ h => h) (by rw [HN.out]; exact hr2) (by rw [HN.out]; omega)
 have HEQ := hide heq
 have HC2 := hide (HC1.out.trans hc2 fun _ h => .inl h)
 clear hr2 hc2 heq
 go_wp2_with fail
 refine HEQ.out.mono ?_
 rintro e w3 ⟨rfl, hc3⟩
 have HC3 := hide (HC2.out.trans hc3 fun _ h => .inl h)
 clear hc3
 go_wp2_with fail
 refine (used_call (HD.out _ HC3.out)).mono ?_
 rintro e w4 ⟨rfl, rfl⟩
 obtain ⟨us, hus⟩ : ∃ us : Nat, (if t.down then 0 else t.used : Nat) = us := ⟨_, rfl⟩
 rw [hus]
 have HU := hide (rused_any (HR.out _ HC3.out).is_ (HR.out _ HC3.out).ok)
 rw [hus] at HU
 clear hus
 go_wp2_with fail
 refine HU.out.mono ?_
 rintro e w5 ⟨rfl, hc5⟩
 have HC5 := hide (HC3.out.trans hc5 fun _ h => .inl h)
 clear hc5
 go_wp2_with fail
 refine (rlist_any (HR.out w5 HC5.out)).mono ?_
 rintro e w6 ⟨v6, rfl, hr6, hc6⟩
 rw [HL.out] at hr6
 obtain ⟨p6, c6, rfl, hcl6⟩ := row_names hr6 rfl
 have HC6 := hide (HC5.out.trans hc6 fun _ h => .inl h)
 have HRW := hide (fun (W : World) (hW : Chg w6 W (fun _ => False)) k y (hk : L[k]? = some y) => (show ∃ g, p6 = some ⟨g, 0, none⟩ ∧ W.cell? ⟨g, k, none⟩ = some (.string (str y)) from by
  obtain ⟨g, e, hB, hc⟩ := hcl6 k y hk
  exact ⟨g, e, hW.cell hc fun ht => ht⟩))
 rw [HN.out]
 clear hr6 hc6 hcl6
 go_wp2_with fail
 go_loopw [6, 7, 8, 9, 10, 27] (fun _ _ _ _ _ i wr => ∃ j : Nat, j ≤ n ∧ i = .int .i64 j ∧ Hid (Chg w6 wr (fun _ => False))) (fun _ _ _ _ _ i _ => n - (intOf i).toNat)
 case atStart => exact ⟨0, Nat.zero_le _, rfl, hide (Chg.refl _ _)⟩
 case round =>
  obtain ⟨j, hj, rfl, hrel⟩ := hrel
  have HCR := hide hrel.out
  have HCW := hide (HC6.out.trans hrel.out fun _ h => .inl h)
  clear hrel
  by_cases hjn : (j : Int) < (n : Int)
  ·obtain ⟨y, hy⟩ : ∃ y, L[j]? = some y := ⟨_, List.getElem?_eq_getElem (by have := HN.out; omega)⟩
   obtain ⟨g6, rfl, hcell⟩ := HRW.out wr HCR.out j y hy
   have hon := HLO.out y (List.mem_of_getElem? hy)
   have hsz : (str y).size ≤ maxLen := by have := okN_len hon; rw [str_size]; unfold maxLen; omega
   have HRD := hide (read_call (HD.out _ HCW.out) hsz)
   rw [str_list] at HRD
   have HRR := hide (fun V (hV : Chg w V (fun _ => False)) => rread_any (HR.out V hV) hsz)
   unfold RReadPost at HRR
   rw [str_list] at HRR
   clear hy hon hsz
   go_wp2_with fail
   refine HRD.out.mono ?_
   rintro e w7 ⟨v7, rfl, hr7, hb7⟩
   have hby7 := by_row hr7
   obtain ⟨p7, n7, c7, rfl⟩ := hby7.sl
   have HBY := hide hby7
   have HC7 := hide (HCW.out.trans (Chg.of_below hb7 (fun _ => False)) fun _ h => .inl h)
   have HC67 := hide (HCR.out.trans (Chg.of_below hb7 (fun _ => False)) fun _ h => .inl h)
   clear hr7 hb7 hby7 hcell
   go_wp2_with fail
   refine (HRR.out w7 HC7.out).mono ?_
   rintro e w8 ⟨p8, n8, c8, rfl, hby8, hc8⟩
   have HEQ8 := hide (equal_any (HBY.out.chg hc8 (.inr fun _ _ h => h)) hby8)
   rw [show ((t.readB y == t.readB y) : Bool) = true from beq_self_eq_true _] at HEQ8
   have HC68 := hide (HC67.out.trans hc8 fun _ h => .inl h)
   clear hby8 hc8
   go_wp2_with fail
   refine HEQ8.out.mono ?_
   rintro e w9 ⟨rfl, rfl⟩
   go_wp2_with fail
   go_roundw
   case rel => exact ⟨j + 1, by omega, by go_num, hide HC68.out⟩
   case measure => simp [intOf]; omega
  ·go_wp2
   go_ret
   exact ⟨rfl, HCW.out⟩
end Go.Proofs.YtgbdjcekpdfpjaaGreatDoor
namespace Go.Proofs.YtgbdjcekpdfpjaaGreatDoor
open Go.RowKit
def Pr (w0 w : World) (K M : Nat → Prop) (g : Nat) (s : Dk) (x : Nat) (t : Dk) : Prop :=
 ∃ S C Z R, DiskIs w S C g s ∧ RdIs w Z R x t ∧ (∀ i, S i → Z i) ∧ (∀ i, M i → Z i ∧ K i) ∧ (∀ i, K i → ¬ S i ∧ ¬ C i ∧ ¬ R i ∧ i < w.heap.size) ∧ (∀ i, S i → w0.heap.size ≤ i) ∧ (∀ i, R i → w0.heap.size ≤ i ∧ ¬ C i) ∧ Below w0.heap.size w0 w
section
variable {w0 w : World} {K M : Nat → Prop} {g x : Nat} {s t : Dk}
theorem Pr.below (h : Pr w0 w K M g s x t) : Below w0.heap.size w0 w := by
 obtain ⟨S, C, Z, R, _, _, _, _, _, _, _, h⟩ := h
 exact h
theorem Pr.at (h : Pr w0 w K M g s x t) {w' : World} (hc : Chg w w' (fun _ => False)) : Pr w0 w' K M g s x t := by
 obtain ⟨S, C, Z, R, h1, h2, h3, h4, h5, h6, h7, h8⟩ := h
 exact ⟨S, C, Z, R, h1.chg hc (fun _ _ h => h) (fun _ _ h => h), h2.at hc, h3, h4, fun i hi => ⟨(h5 i hi).1, (h5 i hi).2.1, (h5 i hi).2.2.1, Nat.lt_of_lt_of_le (h5 i hi).2.2.2 hc.size⟩, h6, h7, Chg.to_below h8 hc fun _ h => h.elim⟩
theorem Pr.new (h : Pr w0 w K M g s x t) {w' : World} (hc : Chg w w' (fun _ => False)) {N : Nat → Prop} (hN : ∀ i, N i → w.heap.size ≤ i ∧ i < w'.heap.size) : Pr w0 w' (fun i => K i ∨ N i) (fun i => M i ∨ N i) g s x t := by
 obtain ⟨S, C, Z, R, h1, h2, h3, h4, h5, h6, h7, h8⟩ := h
 refine ⟨S, C, fun i => Z i ∨ N i, R, h1.chg hc (fun _ _ h => h) (fun _ _ h => h), h2.chg hc (fun _ h => h.elim) fun i hi => hi.imp id (hN i), fun i hi => .inl (h3 i hi), fun i hi => ?_, fun i hi => ?_, h6, h7, Chg.to_below h8 hc fun _ h => h.elim⟩
 ·rcases hi with hi | hi
  ·exact ⟨.inl (h4 i hi).1, .inl (h4 i hi).2⟩
  ·exact ⟨.inr hi, .inr hi⟩
 ·rcases hi with hi | hi
  ·exact ⟨(h5 i hi).1, (h5 i hi).2.1, (h5 i hi).2.2.1, Nat.lt_of_lt_of_le (h5 i hi).2.2.2 hc.size⟩
  ·obtain ⟨a, b⟩ := hN i hi
   exact ⟨fun h => by have := h1.sap i h; omega, fun h => by have := h1.cap i h; omega, fun h => by have := h2.rap i h; omega, b⟩
theorem Pr.drop (h : Pr w0 w K M g s x t) : Pr w0 w (fun _ => False) (fun _ => False) g s x t := by
 obtain ⟨S, C, Z, R, h1, h2, h3, h4, h5, h6, h7, h8⟩ := h
 exact ⟨S, C, Z, R, h1, h2, h3, fun _ h => h.elim, fun _ h => h.elim, h6, h7, h8⟩
theorem Pr.prog (h : Pr w0 w K M g s x t) : ∃ S C, DiskIs w S C g s ∧ ∀ s' w', DPost w S C g s' w' → Pr w0 w' K M g s' x t ∧ Chg w w' (fun i => ¬ K i ∧ w0.heap.size ≤ i) := by
 obtain ⟨S, C, Z, R, h1, h2, h3, h4, h5, h6, h7, h8⟩ := h
 refine ⟨S, C, h1, fun s' w' hp => ?_⟩
 obtain ⟨S', C', p1, p2, p3, p4⟩ := hp
 refine ⟨⟨S', C', fun i => Z i ∨ S' i, R, p1, h2.chg p2 h3 fun i hi => ?_, fun i hi => .inr hi, fun i hi => ⟨.inl (h4 i hi).1, (h4 i hi).2⟩, fun i hi => ?_, fun i hi => ?_, fun i hi => ⟨(h7 i hi).1, fun hc => ?_⟩, Chg.to_below h8 p2 h6⟩, p2.mono fun i hi => ⟨fun hk => (h5 i hk).1 hi, h6 i hi⟩⟩
 ·rcases hi with hi | hi
  ·exact .inl hi
  ·rcases p3 i hi with h | h
   ·exact .inl (h3 i h)
   ·exact .inr ⟨h, p1.sap i hi⟩
 ·obtain ⟨a, b, c, d⟩ := h5 i hi
  refine ⟨fun h => ?_, fun h => ?_, c, Nat.lt_of_lt_of_le d p2.size⟩
  ·rcases p3 i h with h | h
   ·exact a h
   ·omega
  ·rcases p4 i h with h | h
   ·exact b h
   ·omega
 ·rcases p3 i hi with h | h
  ·exact h6 i h
  ·have := h8.size
   omega
 ·rcases p4 i hc with h | h
  ·exact (h7 i hi).2 h
  ·have := h2.rap i hi
   omega
theorem Pr.ref (h : Pr w0 w K M g s x t) : ∃ Z R, RdIs w Z R x t ∧ ∀ t' w', RPost w Z R x t' w' → Pr w0 w' K M g s x t' ∧ Chg w w' (fun i => ¬ K i ∧ w0.heap.size ≤ i) := by
 obtain ⟨S, C, Z, R, h1, h2, h3, h4, h5, h6, h7, h8⟩ := h
 refine ⟨Z, R, h2, fun t' w' hp => ?_⟩
 obtain ⟨R', p1, p2, p3⟩ := hp
 refine ⟨⟨S, C, Z, R', h1.chg p2 (fun i hi hr => h2.sep i hr (h3 i hi)) (fun i hi hr => (h7 i hr).2 hi), p1, h3, h4, fun i hi => ?_, h6, fun i hi => ?_, Chg.to_below h8 p2 fun i hi => (h7 i hi).1⟩, p2.mono fun i hi => ⟨fun hk => (h5 i hk).2.2.1 hi, (h7 i hi).1⟩⟩
 ·obtain ⟨a, b, c, d⟩ := h5 i hi
  refine ⟨a, b, fun h => ?_, Nat.lt_of_lt_of_le d p2.size⟩
  rcases p3 i h with h | h
  ·exact c h
  ·omega
 ·rcases p3 i hi with h | h
  ·exact h7 i h
  ·have := h8.size
   exact ⟨by omega, fun hc => by have := h1.cap i hc; omega⟩
end
theorem rnew_any {w : World} {room : Nat} (h : room ≤ 16777216) {w0 : World} {g : Nat} {e0 : Ending} (hd : ∃ S, DiskIs w S (fun _ => False) g (Dk.new room) ∧ (∀ i, S i → w0.heap.size ≤ i) ∧ Below w0.heap.size w0 w) :
  Calls Tryz.prog 14 #[.int .i64 (room : Nat)] w fun e w' => ∃ x, e = .returned (.tuple #[.pointer (some ⟨x, 0, none⟩), .int .i64 0]) ∧ Pr w0 w' (fun _ => False) (fun _ => False) g (Dk.new room) x (Dk.new room) := by
 obtain ⟨S, h1, h2, h3⟩ := hd
 have hc := chgA w (.cells #[.int .i64 (room : Nat), .slice none 0 0, .slice none 0 0, .bool false, .int .i64 0, .int .i64 0, .int .i64 0] 53)
 have hsz : w0.heap.size ≤ w.heap.size := h3.size
 have hP : Pr w0 (w.alloc (.cells #[.int .i64 (room : Nat), .slice none 0 0, .slice none 0 0, .bool false, .int .i64 0, .int .i64 0, .int .i64 0] 53)) (fun _ => False) (fun _ => False) g (Dk.new room) w.heap.size (Dk.new room) := by
  refine ⟨S, fun _ => False, S, fun i => i = w.heap.size, h1.chg hc (fun _ _ h => h) (fun _ _ h => h), ⟨rfl, fun i hi => by subst hi; simp, fun i hi => Nat.lt_of_lt_of_le (h1.sap i hi) hc.size, fun i hi hs => by have := h1.sap i hs; omega, .slice none 0 0, .slice none 0 0, 0, 0, ?_, .inl rfl, Fil.nil _ _, ActR.nil _ _ _⟩, fun i hi => hi, fun _ h => h.elim, fun _ h => h.elim, h2, fun i hi => ⟨by omega, fun h => h⟩, Chg.to_below h3 hc fun _ h => h.elim⟩
  exact heap_alloc_new w _
 have HP := hide hP
 have hr : ¬ (room : Int) < 0 := by omega
 have hr2 : (room : Int) ≤ 16777216 := by omega
 clear hP hc h1 h2 h3
 go_enter Tryz.func14, Tryz.ntmps14
 go_wp2
 go_ret2
 exact ⟨_, rfl, HP.out⟩
end Go.Proofs.YtgbdjcekpdfpjaaGreatDoor
