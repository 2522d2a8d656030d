/- play. -/
import Derived.Test.YtimjplkehlgelaaGreatSoDo
namespace Go.Proofs.YtimjplkehlgelaaGreat
set_option linter.unusedVariables false
set_option linter.unusedSimpArgs false
open Go.RowKit

/-- Whether a call is Retain. -/
def isRet (op : Int) : Bool := wrap64 ((IntKind.u64.wrap op).tmod 5) == 3
noncomputable def play1 (S : List Pl) (d : Dn) : List Pl := if isRet d.op = true then retS S d.z else ingS S d.L
noncomputable def playF (S : List Pl) (D : List Dn) : List Pl := D.foldl play1 S
noncomputable def playS (D : List Dn) : List Pl := playF [] D
theorem playF_snoc (S : List Pl) (D : List Dn) (d : Dn) : playF S (D ++ [d]) = play1 (playF S D) d := by simp [playF]
theorem play1_ok {S : List Pl} (h : SoOk S) (d : Dn) : SoOk (play1 S d) := by
  unfold play1
  split
  · exact retS_ok h _
  · exact ingS_ok h _
theorem playF_ok {S : List Pl} (h : SoOk S) (D : List Dn) : SoOk (playF S D) := by
  unfold playF
  induction D generalizing S with
  | nil => exact h
  | cons d r ih => exact ih (play1_ok h d)
theorem playS_ok (D : List Dn) : SoOk (playS D) := playF_ok SoOk.nil D
set_option maxRecDepth 200000 in
set_option maxHeartbeats 4000000 in
theorem play_any {w : World} {v : Value} {D : List Dn} (h : Dns w v D) (hl : ∀ d ∈ D, lightL d.L = true) : Calls Tryz.prog 23 #[v] w (NewSo w (playS D)) := by
  have HD := hide (fun W (hW : Below w.heap.size w W) => h.below hW)
  obtain ⟨p, c, rfl, hlc, hcm, hx⟩ := h
  have hn9 : (D.length : Int) ≤ 9223372036854775807 := by unfold maxLen at hcm; omega
  obtain ⟨n, hn⟩ : ∃ n, D.length = n := ⟨_, rfl⟩
  rw [hn] at hn9 HD ⊢
  have HN := hide hn
  have HLI := hide hl
  clear hlc hcm hx hn hl
  go_enter Tryz.func23, Tryz.ntmps23
  go_wp2_with fail
  refine (snew_any w).mono ?_
  intro e X hn
  obtain ⟨gs, bm, R0, rfl, hs0, hr0, hn0, hbX⟩ := hn
  have H0 := hide (And.intro hs0 (And.intro hr0 (And.intro hn0 hbX)))
  clear hs0 hr0 hn0 hbX
  go_wp2_with fail
  go_loopw [5, 9] (fun _ i wr => ∃ (k : Nat), k ≤ n ∧ i = .int .i64 k ∧ Hid (∃ R, SoIs wr gs bm R ∧ R.map Tr.pl = playS (D.take k) ∧ (∀ k, SoS gs bm R k → w.heap.size ≤ k) ∧ Below w.heap.size w wr)) (fun _ i _ => n - (intOf i).toNat)
  case atStart => exact ⟨0, by omega, rfl, hide ⟨R0, H0.out.1, H0.out.2.1, H0.out.2.2.1, H0.out.2.2.2⟩⟩
  case round =>
    obtain ⟨k, hk, rfl, HR⟩ := hrel
    obtain ⟨R, hsr, hpl, hnw, hbl⟩ := HR.out
    by_cases hlt : k < n
    · have hkL : k < D.length := by have := HN.out; omega
      obtain ⟨d, hd⟩ : ∃ d, D[k]? = some d := ⟨_, List.getElem?_eq_getElem hkL⟩
      obtain ⟨p', c', hpe, _, _, hms⟩ := HD.out wr hbl
      injection hpe with hpe1 hpe2 hpe3
      subst hpe1 hpe3
      clear hpe2
      obtain ⟨g2, o2, rfl, hmv, hc⟩ := hms k d hd
      obtain ⟨oo, hoo⟩ : ∃ oo, o2 + k * 3 = oo := ⟨_, rfl⟩
      rw [hoo] at hc
      have c0 := hc 0 _ rfl
      rw [Nat.add_zero] at c0
      have c1 := hc 1 _ rfl
      have c2 := hc 2 _ rfl
      have HTK : Hid (playS (D.take (k + 1)) = play1 (playS (D.take k)) d) := hide (by rw [List.take_add_one, hd]; exact playF_snoc _ _ _)
      have hll := slight_len (HLI.out d (List.mem_of_getElem? hd))
      have hbZ : Below wr.heap.size wr (wr.alloc (.cells #[.int .i64 d.op, .slice d.p d.n d.c, .int .i64 d.z] 33)) := (Below.refl _ _).alloc (Nat.le_refl _) _
      have HRET := hide (sretain_any (hsr.below hbZ) d.z)
      have HING := hide (singest_any (hsr.below hbZ) (hmv.1.below hbZ) (by omega) hll.2)
      have HSR := hide (And.intro hsr (And.intro hpl (And.intro hnw (And.intro hbl hbZ))))
      obtain ⟨op, hop⟩ : ∃ a, d.op = a := ⟨_, rfl⟩
      obtain ⟨dz, hdz⟩ : ∃ a, d.z = a := ⟨_, rfl⟩
      obtain ⟨dp, hdp⟩ : ∃ a, d.p = a := ⟨_, rfl⟩
      obtain ⟨dn, hdn⟩ : ∃ a, d.n = a := ⟨_, rfl⟩
      obtain ⟨dc, hdc⟩ : ∃ a, d.c = a := ⟨_, rfl⟩
      rw [hop, hdp, hdn, hdc, hdz] at HRET HING HSR
      rw [hop] at c0
      rw [hdp, hdn, hdc] at c1
      rw [hdz] at c2
      have HOP := hide hop
      have HDZ := hide hdz
      have j0 : (0 : Int) ≤ (k : Int) := by omega
      have j1 : (k : Int) < (n : Int) := by omega
      clear hd hkL hmv hc hms hop hdz hdp hdn hdc hll hbZ hsr hpl hnw hbl
      by_cases h3 : (wrap64 ((IntKind.u64.wrap op).tmod 5) == 3) = true
      · have HP1 : Hid (play1 (playS (D.take k)) d = retS (playS (D.take k)) dz) := hide (by unfold play1 isRet; rw [HOP.out, HDZ.out, if_pos h3])
        go_wp2_with fail
        refine HRET.out.mono ?_
        intro e w5 hp5
        obtain ⟨rfl, ht5⟩ := hp5
        have H5 : Hid (∃ R, SoIs w5 gs bm R ∧ R.map Tr.pl = playS (D.take (k + 1)) ∧ (∀ k, SoS gs bm R k → w.heap.size ≤ k) ∧ Below w.heap.size w w5) := hide (by
          refine ⟨_, ht5.is, by rw [HTK.out, HP1.out, ← HSR.out.2.1]; exact ht5.pl, fun j hj => ?_, ?_⟩
          · rcases ht5.new j hj with h1 | h1
            · exact HSR.out.2.2.1 j h1
            · have := HSR.out.2.2.2.1.size; simp at h1; omega
          · exact Chg.to_below (HSR.out.2.2.2.1.trans (HSR.out.2.2.2.2.mono HSR.out.2.2.2.1.size)) ht5.chg fun j hj => HSR.out.2.2.1 j (SoM.sub hj))
        clear ht5
        go_wp2
        go_roundw
        case rel => exact ⟨k + 1, by omega, by go_num, H5⟩
        case measure => simp [intOf]; omega
      · replace h3 : (wrap64 ((IntKind.u64.wrap op).tmod 5) == 3) = false := by simpa using h3
        have HP1 : Hid (play1 (playS (D.take k)) d = ingS (playS (D.take k)) d.L) := hide (by unfold play1 isRet; rw [HOP.out, if_neg (by rw [h3]; simp)])
        go_wp2_with fail
        refine HING.out.mono ?_
        intro e w5 hp5
        obtain ⟨rfl, R5, ht5⟩ := hp5
        have H5 : Hid (∃ R, SoIs w5 gs bm R ∧ R.map Tr.pl = playS (D.take (k + 1)) ∧ (∀ k, SoS gs bm R k → w.heap.size ≤ k) ∧ Below w.heap.size w w5) := hide (by
          refine ⟨_, ht5.is, by rw [HTK.out, HP1.out, ← HSR.out.2.1]; exact ht5.pl, fun j hj => ?_, ?_⟩
          · rcases ht5.new j hj with h1 | h1
            · exact HSR.out.2.2.1 j h1
            · have := HSR.out.2.2.2.1.size; simp at h1; omega
          · exact Chg.to_below (HSR.out.2.2.2.1.trans (HSR.out.2.2.2.2.mono HSR.out.2.2.2.1.size)) ht5.chg fun j hj => HSR.out.2.2.1 j (SoM.sub hj))
        clear ht5
        go_wp2
        go_roundw
        case rel => exact ⟨k + 1, by omega, by go_num, H5⟩
        case measure => simp [intOf]; omega
    · have htk : D.take k = D := List.take_of_length_le (by have := HN.out; omega)
      rw [htk] at hpl
      have HF := hide (And.intro hsr (And.intro hpl (And.intro hnw hbl)))
      clear htk HR hsr hpl hnw hbl
      go_wp2
      go_ret
      exact ⟨gs, bm, R, rfl, HF.out.1, HF.out.2.1, HF.out.2.2.1, HF.out.2.2.2⟩
end Go.Proofs.YtimjplkehlgelaaGreat
