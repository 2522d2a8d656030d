/- Two disks that are alike. -/
import Derived.Test.YtdghkmpcjjmlfaaRdPair
namespace Go.Proofs.Ytdghkmpcjjmlfaa
set_option linter.unusedVariables false
set_option linter.unusedSimpArgs false
open Go.RowKit

theorem names_few {s : Dk} (ok : s.Ok) : s.names.length ≤ 4096 := by
  have h1 := seen_few ok
  unfold Dk.names
  split
  · simp
  · simpa using h1
theorem byte0 {B : Nat} {w : World} {p : Option Addr} {n c : Nat} {l : List UInt8} (h : w.ownsRow B 5 1 (.slice p n c) l.length (l.map bv)) (hl : 0 < l.length) :
    ∃ (g : Nat) (y : UInt8), p = some ⟨g, 0, none⟩ ∧ B ≤ g ∧ (0 : Int) < (n : Int) ∧ w.cell? ⟨g, 0, none⟩ = some (.int .u8 (y.toNat : Int)) ∧ w.frozen? ⟨g, 0, none⟩ = false := by
  have hn := (by_row h).len.1
  obtain ⟨g, y, h1, h2, _, h3, h4, _⟩ := Own.cellAt (Own.of_row h) (j := 0) (by omega)
  exact ⟨g, y, h1, h2, by omega, h3, h4⟩
set_option maxRecDepth 200000 in
set_option maxHeartbeats 16000000 in
theorem ralike_any {w0 w : World} {K M : Nat → Prop} {g x : Nat} {s : Dk} (h : Pr w0 w K M g s x s) (hn : s.Named) (hq : s.Calm) :
    Calls Try.prog 21 #[.pointer (some ⟨g, 0, none⟩), .pointer (some ⟨x, 0, none⟩)] w fun e w' => e = .returned (.bool true) ∧ Chg w w' (fun _ => False) := by
  have HPR := hide h
  have HNM := hide hn
  have hok := h.ok
  have HOK := hide hok
  obtain ⟨S, C, hD, _⟩ := h.prog
  obtain ⟨Z, R, hR, _⟩ := h.ref
  have HD := hide (fun V (hV : Chg w V (fun _ => False)) => hD.chg hV (fun _ _ h => h) fun _ _ h => h)
  have HR := hide (fun V (hV : Chg w V (fun _ => False)) => (⟨hR.at hV, hok, hq⟩ : Rq V Z R x s))
  obtain ⟨vl, va, kp, tr, hh, hkt, hl, ha⟩ := hR.parts
  obtain ⟨pa, na, ca, rfl⟩ := ha.sl
  have HNA := hide ha.len.1
  have k2 := hh.c2
  have k3 := hh.c3
  have HC3 := hide (fun V (hV : Chg w V (fun _ => False)) => (hh.chg hV fun h => h).c3)
  have hnl := names_few hok
  obtain ⟨L, hL⟩ : ∃ L, L = s.names := ⟨_, rfl⟩
  obtain ⟨n, hnn⟩ : ∃ n, n = L.length := ⟨_, rfl⟩
  have hni : n ≤ 4096 := by rw [hnn, hL]; exact hnl
  have HL := hide hL
  have HN := hide hnn
  have HIDLE := hide hok.idle
  obtain ⟨ac, hac⟩ : ∃ ac : Nat, ac = s.acts.length := ⟨_, rfl⟩
  have hnaac : na = ac := by rw [hac]; exact HNA.out
  subst hnaac
  have HAC := hide hac
  have HUS := hide (show s.used ≤ 16777216 from Nat.le_trans hok.room hok.most)
  clear h hn hok hD hR hh hkt hl ha hnl hL hnn hac
  rcases hd : s.down with _ | _
  · skip
    rw [hd] at k3
    go_enter Try.func21, Try.ntmps21
    go_wp2_with fail
    refine (list_call (HD.out w (Chg.refl _ _))).mono ?_
    rintro e w1 ⟨v1, rfl, hr1, hb1⟩
    rw [← HL.out, ← HN.out] at hr1
    obtain ⟨p1, m1, c1, rfl⟩ := row_sl' hr1
    have HR1 := hide hr1
    have HC1 := hide (Chg.of_below hb1 (fun _ => False))
    clear hr1 hb1
    go_wp2_with fail
    refine (rlist_any (HR.out w1 HC1.out)).mono ?_
    rintro e w2 ⟨v2, rfl, hr2, hc2⟩
    rw [← HL.out, ← HN.out] at hr2
    obtain ⟨p2, m2, c2, rfl⟩ := row_sl' hr2
    have heq := namesEqual_any (L := L) (by rw [← HN.out]; exact row_chg HR1.out hc2 fun _ _ h => h) (by rw [← HN.out]; exact hr2) (by rw [← HN.out]; omega)
    have HEQ := hide heq
    have HC2 := hide (HC1.out.trans hc2 fun _ h => .inl h)
    clear hr2 hc2 heq
    go_wp2_with fail
    refine HEQ.out.mono ?_
    rintro e w3 ⟨rfl, hc3⟩
    have HC3w := hide (HC2.out.trans hc3 fun _ h => .inl h)
    clear hc3
    go_wp2_with fail
    refine (pending_call (HD.out w3 HC3w.out)).mono ?_
    rintro e w4 ⟨rfl, rfl⟩
    rw [← HAC.out]
    go_wp2_with fail
    refine (used_call (HD.out _ HC3w.out)).mono ?_
    rintro e w4 ⟨rfl, rfl⟩
    obtain ⟨us, hus⟩ : ∃ us : Nat, (if s.down then 0 else s.used : Nat) = us := ⟨_, rfl⟩
    rw [hus]
    have HU := hide (rused_any (HR.out _ HC3w.out).is_ (HR.out _ HC3w.out).ok)
    rw [hus] at HU
    clear hus
    go_wp2_with fail
    refine HU.out.mono ?_
    rintro e w5 ⟨rfl, hc5⟩
    have HC5 := hide (HC3w.out.trans hc5 fun _ h => .inl h)
    have k5 := HC3.out _ HC5.out
    rw [hd] at k5
    clear hc5
    go_wp2_with fail
    refine (rfiles_any (HR.out _ HC5.out).is_ (HR.out _ HC5.out).ok).mono ?_
    rintro e w6 ⟨p6, n6, c6, rfl, hf6, hc6⟩
    have hn6 := hf6.len.1
    have hn6i : (n6 : Int) ≤ 4096 := by have := seen_few HOK.out; omega
    have HN6 := hide hn6
    have HF6 := hide hf6
    have HC6 := hide (HC5.out.trans hc6 fun _ h => .inl h)
    clear hf6 hc6 hn6
    go_wp2_with fail
    go_loopw [7, 8, 9, 45] (fun _ _ _ i wr => ∃ j : Nat, j ≤ n6 ∧ i = .int .i64 j ∧ Hid (Chg w6 wr (fun _ => False))) (fun _ _ _ i _ => n6 - (intOf i).toNat)
    case atStart => exact ⟨0, Nat.zero_le _, rfl, hide (Chg.refl _ _)⟩
    case round =>
      obtain ⟨j, hj, rfl, hrel⟩ := hrel
      have HCR := hide (HC6.out.trans hrel.out fun _ h => .inl h)
      by_cases hjn : (j : Int) < (n6 : Int)
      · obtain ⟨y, hy⟩ : ∃ y, s.seen[j]? = some y := ⟨_, List.getElem?_eq_getElem (by have := HN6.out; omega)⟩
        obtain ⟨gl, o, e, rfl, hat, hfe, hz⟩ := (HF6.out.chg hrel.out fun _ h => h.elim).at_ hy
        obtain ⟨es, ep, en, ec⟩ := e
        obtain ⟨oo, hoo⟩ : ∃ oo, o + j * 2 = oo := ⟨_, rfl⟩
        rw [hoo] at hat
        have e0 := hat.c0
        have e1 := hat.c1
        have hgl := hat.lt
        dsimp only at e0 e1
        have hym : y ∈ s.seen := List.mem_of_getElem? hy
        have hgy : get s.seen y.1 = some y.2 := get_of_mem (seen_rises HOK.out) hym
        have hnm := hfe.nm
        dsimp only at hnm
        have hes : es.size ≤ maxLen := by have := hfe.sz; dsimp only at this; unfold maxLen; omega
        have hoy : okN y.1 = true := HNM.out.seen y hym
        have hre : s.readE es.data.toList = 0 := by
          rw [hnm]
          unfold Dk.readE
          rw [if_neg (by rw [rdy_why ⟨hd, hoy⟩]; simp), hgy]
          rfl
        have hrb : s.readB es.data.toList = y.2 := by
          rw [hnm]
          unfold Dk.readB
          rw [if_neg (by rw [rdy_why ⟨hd, hoy⟩]; simp), hgy]
          rfl
        have HYL := hide (show y.2.length ≤ 16777216 from by have h1 := seen_get HOK.out y.1; rw [hgy] at h1; have := HUS.out; simp at h1; omega)
        have hA := chgA wr (.cells #[.string es, .slice ep en ec] 74)
        have hRD := read_call (HD.out _ (HCR.out.trans hA fun _ h => .inl h)) hes
        rw [hre, hrb] at hRD
        have HRD := hide hRD
        have HE := hide (hfe.by_.chg hA (.inr fun _ _ h => h))
        have HA6 := hide (hrel.out.trans hA fun _ h => .inl h)
        have hnew := heap_alloc_new wr (.cells #[.string es, .slice ep en ec] 74)
        have HNW := hide hnew
        clear hat hfe hz hym hgy hnm hes hoy hre hrb hA hRD hy hrel hnew
        go_wp2_with fail
        refine HRD.out.mono ?_
        rintro e w7 ⟨v7, rfl, hr7, hb7⟩
        obtain ⟨p7, n7, c7, rfl⟩ := (by_row hr7).sl
        have HEQ7 := hide (equal_any (by_row hr7) (HE.out.below hb7))
        rw [show ((y.2 == y.2) : Bool) = true from beq_self_eq_true _] at HEQ7
        have HR7 := hide hr7
        have HB7 := hide hb7
        have hz7 := (hb7.block wr.heap.size (by simp)).trans HNW.out
        have z0 := cell_of_row w7 wr.heap.size 0 _ 74 (0, 0) hz7
        have z1 := cell_of_row w7 wr.heap.size 1 _ 74 (0, 0) hz7
        clear hr7 hb7 hz7
        go_wp2_with fail
        refine HEQ7.out.mono ?_
        rintro e w8 ⟨rfl, rfl⟩
        have hbz : (wr.alloc (.cells #[.string es, .slice ep en ec] 74)).heap.size ≤ w7.heap.size := HB7.out.size
        go_wp2_with (at_builtin; go_must (refine wpList_append_row_by rfl _ _ rfl rfl rfl rfl (row_below HR7.out ((Below.refl _ _).alloc (Nat.le_refl _) _)) (by_one w7 1) (by have := HYL.out; rw [List.length_singleton]; omega) (by simp at hbz ⊢; omega) ?_); go_loud (intro v9 w9 ho9 hb9; obtain ⟨p9, n9, c9, rfl⟩ := (by_row ho9).sl; obtain ⟨g9, y9, rfl, hg9, hl9, hc9, hf9⟩ := byte0 ho9 (by simp); have H9 := hide (And.intro hb9 hg9); clear ho9 hb9))
        have bW := ((HB7.out.alloc HB7.out.size (.cells #[.int .u8 1] 5)).trans H9.out.1).setCell (p := ⟨g9, 0, none⟩) H9.out.2 (.int .u8 (bits BinOp.xor IntKind.u8 (y9.toNat : Int) 255))
        refine ⟨⟨j + 1, by omega, by go_num, hide (HA6.out.bel (bW.mono HA6.out.size))⟩, by simp [intOf]; omega⟩
      · clear hrel
        go_wp2
        go_ret
        exact ⟨rfl, HCR.out⟩
  · obtain rfl : na = 0 := by rw [HAC.out, HIDLE.out hd]; rfl
    rw [hd] at k3
    go_enter Try.func21, Try.ntmps21
    go_wp2_with fail
    refine (list_call (HD.out w (Chg.refl _ _))).mono ?_
    rintro e w1 ⟨v1, rfl, hr1, hb1⟩
    rw [← HL.out, ← HN.out] at hr1
    obtain ⟨p1, m1, c1, rfl⟩ := row_sl' hr1
    have HR1 := hide hr1
    have HC1 := hide (Chg.of_below hb1 (fun _ => False))
    clear hr1 hb1
    go_wp2_with fail
    refine (rlist_any (HR.out w1 HC1.out)).mono ?_
    rintro e w2 ⟨v2, rfl, hr2, hc2⟩
    rw [← HL.out, ← HN.out] at hr2
    obtain ⟨p2, m2, c2, rfl⟩ := row_sl' hr2
    have heq := namesEqual_any (L := L) (by rw [← HN.out]; exact row_chg HR1.out hc2 fun _ _ h => h) (by rw [← HN.out]; exact hr2) (by rw [← HN.out]; omega)
    have HEQ := hide heq
    have HC2 := hide (HC1.out.trans hc2 fun _ h => .inl h)
    clear hr2 hc2 heq
    go_wp2_with fail
    refine HEQ.out.mono ?_
    rintro e w3 ⟨rfl, hc3⟩
    have HC3w := hide (HC2.out.trans hc3 fun _ h => .inl h)
    clear hc3
    go_wp2_with fail
    refine (pending_call (HD.out w3 HC3w.out)).mono ?_
    rintro e w4 ⟨rfl, rfl⟩
    rw [← HAC.out]
    go_wp2_with fail
    refine (used_call (HD.out _ HC3w.out)).mono ?_
    rintro e w4 ⟨rfl, rfl⟩
    obtain ⟨us, hus⟩ : ∃ us : Nat, (if s.down then 0 else s.used : Nat) = us := ⟨_, rfl⟩
    rw [hus]
    have HU := hide (rused_any (HR.out _ HC3w.out).is_ (HR.out _ HC3w.out).ok)
    rw [hus] at HU
    clear hus
    go_wp2_with fail
    refine HU.out.mono ?_
    rintro e w5 ⟨rfl, hc5⟩
    have HC5 := hide (HC3w.out.trans hc5 fun _ h => .inl h)
    have k5 := HC3.out _ HC5.out
    rw [hd] at k5
    clear hc5
    go_wp2
    go_ret
    exact ⟨rfl, HC5.out⟩
end Go.Proofs.Ytdghkmpcjjmlfaa
