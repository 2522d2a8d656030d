/- What Retain leaves, and whether some branch ends late: plainly, and by the program. -/
import Derived.Test.YtimjplkehlgelaaSoFacts
namespace Go.Proofs.Ytimjplkehlgelaa
set_option linter.unusedVariables false
set_option linter.unusedSimpArgs false
open Go.RowKit

theorem endP_any : ∀ {L : List Sp}, (∀ x ∈ L, 0 ≤ x.e) → L ≠ [] → ∀ (f : Int), (L.any fun x => decide (f ≤ x.e)) = decide (f ≤ endP L)
  | [], _, h, _ => absurd rfl h
  | [x], hx, _, f => by
    have h0 := hx x (by simp)
    have h1 : endP [x] = x.e := by show max x.e 0 = x.e; omega
    rw [h1]
    simp
  | x :: y :: r, hx, _, f => by
    have ih := endP_any (L := y :: r) (fun z hz => hx z (List.mem_cons_of_mem _ hz)) (by simp) f
    rw [List.any_cons, ih]
    have h2 : endP (x :: y :: r) = max x.e (endP (y :: r)) := rfl
    rw [h2]
    generalize endP (y :: r) = m
    by_cases h1 : f ≤ x.e
    · have h3 : f ≤ max x.e m := by omega
      rw [decide_eq_true h1, decide_eq_true h3]
      rfl
    · rw [decide_eq_false h1, Bool.false_or, decide_eq_decide]
      omega
theorem any_perm {α : Type} {l m : List α} (h : l.Perm m) (p : α → Bool) : l.any p = m.any p := by
  rw [Bool.eq_iff_iff, List.any_eq_true, List.any_eq_true]
  constructor
  · rintro ⟨x, hx, hp⟩; exact ⟨x, h.mem_iff.1 hx, hp⟩
  · rintro ⟨x, hx, hp⟩; exact ⟨x, h.mem_iff.2 hx, hp⟩
/-- Whether a trace ended late. -/
theorem late_eq {t : Int} {L : List Sp} (h : FoOk t L) (hn : L ≠ []) (f : Int) : ((brs (sortS L)).any fun x => decide (f ≤ x.s.e)) = decide (f ≤ endP L) := by
  have h1 := any_perm (fo_perm h) fun x => decide (f ≤ x.e)
  unfold spsOf at h1
  rw [List.any_map] at h1
  rw [← endP_any (fun x hx => by have h9 := (Sp.ok_iff x).1 (h.ok x hx).1; have h7 := h9.s1; have h8 := h9.s2; omega) hn f, ← h1]
  rfl
theorem lookS_ret {S : List Pl} (h : SoOk S) {y : Pl} (hy : y ∈ S) (f : Int) : lookS (retS S f) y.1 = if f ≤ endP y.2 then brs (sortS y.2) else [] := by
  have hf : fndK kP (retS S f) y.1 = (fndK kP S y.1).filter fun z => decide (f ≤ endP z.2) := fndK_filter h.rises.ids _ _
  rw [show fndK kP S y.1 = some y from fndK_of h.rises.ids hy] at hf
  unfold lookS
  rw [hf, Option.filter_some]
  by_cases hl : f ≤ endP y.2
  · rw [if_pos hl, if_pos (by simpa using hl)]
  · rw [if_neg hl, if_neg (by simpa using hl)]
/-- How many went. -/
def goneN (S : List Pl) (f : Int) : Nat := (S.filter fun y => !decide (f ≤ endP y.2)).length
theorem goneN_snoc (S : List Pl) (y : Pl) (f : Int) : goneN (S ++ [y]) f = goneN S f + if f ≤ endP y.2 then 0 else 1 := by
  unfold goneN
  rw [List.filter_append, List.length_append]
  by_cases hl : f ≤ endP y.2
  · rw [if_pos hl, List.filter_cons_of_neg (by simpa using hl)]
    rfl
  · rw [if_neg hl, List.filter_cons_of_pos (by simpa using hl)]
    rfl
theorem goneN_le (S : List Pl) (f : Int) : goneN S f ≤ S.length := List.length_filter_le _ _
theorem goneN_ret (S : List Pl) (f : Int) : goneN S f + (retS S f).length = S.length := by
  unfold goneN retS
  induction S with
  | nil => rfl
  | cons y r ih =>
    by_cases hl : f ≤ endP y.2
    · rw [List.filter_cons_of_neg (by simpa using hl), List.filter_cons_of_pos (by simpa using hl), List.length_cons, List.length_cons]
      omega
    · rw [List.filter_cons_of_pos (by simpa using hl), List.filter_cons_of_neg (by simpa using hl), List.length_cons, List.length_cons]
      omega
theorem retR_len (R : List Tr) (f : Int) : (retR R f).length = (retS (R.map Tr.pl) f).length := by rw [← retR_pl, List.length_map]

set_option maxRecDepth 200000 in
set_option maxHeartbeats 1000000 in
theorem late1_any {w : World} {b : Nat} {f : Int} (hb : w.cell? ⟨b, 0, none⟩ = some (.int .i64 f)) (x : Br) : Calls Try.prog 21 #[.agg (brC x).toArray, .pointer (some ⟨b, 0, none⟩)] w fun e w' => e = .returned (.bool (decide (f ≤ x.s.e))) ∧ Below w.heap.size w w' := by
  obtain ⟨d, o, ⟨t, i, p, s, en, n⟩⟩ := x
  unfold brC
  dsimp only
  have hbl := lt_of_cell hb
  dsimp only at hbl
  have HB := hide ((Below.refl w.heap.size w).alloc (Nat.le_refl _) (.cells #[.int .i64 d, .bool o, .int .i64 t, .int .i64 i, .int .i64 p, .int .i64 s, .int .i64 en, .string n] 42))
  have hne : b ≠ w.heap.size := by omega
  go_enter Try.func21, Try.ntmps21
  go_wp2
  go_ret
  exact ⟨rfl, HB.out⟩
set_option maxRecDepth 200000 in
set_option maxHeartbeats 1000000 in
theorem indexF_any {w : World} {v : Value} {l : List Br} {b : Nat} {f : Int} (hv : Brs w v l) (hb : w.cell? ⟨b, 0, none⟩ = some (.int .i64 f)) : Calls Try.prog 41 #[v, .func (.func 21) #[] #[.pointer (some ⟨b, 0, none⟩)]] w fun e w' => (∃ i : Int, e = .returned (.int .i64 i) ∧ decide (0 ≤ i) = (l.any fun x => decide (f ≤ x.s.e))) ∧ Below w.heap.size w w' := by
  obtain ⟨p, n, c, rfl⟩ := hv.sl
  obtain ⟨hn, hnc, hcm⟩ := hv.len
  have hn9 : (n : Int) ≤ 9223372036854775807 := by unfold maxLen at hcm; omega
  have HV := hide hv
  have HN := hide hn
  have HC := hide hb
  clear hv hn hnc hcm hb
  go_enter Try.func41, Try.ntmps41
  go_wp2_with fail
  go_loopw [5, 8] (fun _ i wr => ∃ k : Nat, k ≤ n ∧ i = .int .i64 k ∧ Hid (Below w.heap.size w wr ∧ ((l.take k).any fun x => decide (f ≤ x.s.e)) = false)) (fun _ i _ => n - (intOf i).toNat)
  case atStart => exact ⟨0, by omega, rfl, hide ⟨Below.refl _ _, rfl⟩⟩
  case round =>
    obtain ⟨k, hk, rfl, HR⟩ := hrel
    by_cases hlt : (k : Int) < (n : Int)
    · obtain ⟨gv, ov, rfl, hx⟩ := HV.out.at_ (by omega)
      obtain ⟨x, hxk⟩ : ∃ x, l[k]? = some x := ⟨_, List.getElem?_eq_getElem (by have := HN.out; omega)⟩
      have hat := fun i u hu => (HR.out.1.cell (lt_of_cell (hx k x hxk i u hu))).trans (hx k x hxk i u hu)
      obtain ⟨oo2, hoo2⟩ : ∃ oo2, ov + k * 8 = oo2 := ⟨_, rfl⟩
      rw [hoo2] at hat
      have z0 := hat 0 _ rfl
      rw [Nat.add_zero] at z0
      have z1 := hat 1 _ rfl
      have z2 := hat 2 _ rfl
      have z3 := hat 3 _ rfl
      have z4 := hat 4 _ rfl
      have z5 := hat 5 _ rfl
      have z6 := hat 6 _ rfl
      have z7 := hat 7 _ rfl
      have HL1 := hide (late1_any ((HR.out.1.cell (lt_of_cell HC.out)).trans HC.out) x)
      have HTK : Hid (((l.take (k + 1)).any fun x => decide (f ≤ x.s.e)) = decide (f ≤ x.s.e)) := hide (by
        rw [List.take_add_one, hxk, List.any_append, HR.out.2]
        simp)
      have HXM := hide (List.mem_of_getElem? hxk)
      clear hx hxk hat
      obtain ⟨q, hq⟩ : ∃ q, decide (f ≤ x.s.e) = q := ⟨_, rfl⟩
      rw [hq] at HL1 HTK
      have HQ := hide hq
      clear hq
      obtain ⟨d, o, ⟨t, i, p', s, en, nm⟩⟩ := x
      unfold brC at HL1
      dsimp only at *
      go_wp2_with fail
      refine HL1.out.mono ?_
      rintro e w5 ⟨rfl, hb5⟩
      have HB5 := hide (HR.out.1.trans (hb5.mono HR.out.1.size))
      clear hb5
      cases q
      · go_wp2
        go_roundw
        case rel => exact ⟨k + 1, by omega, by go_num, hide ⟨HB5.out, HTK.out⟩⟩
        case measure => simp [intOf]; omega
      · have HAN : Hid ((l.any fun x => decide (f ≤ x.s.e)) = true) := hide (List.any_eq_true.2 ⟨_, HXM.out, HQ.out⟩)
        go_wp2
        go_ret
        exact ⟨⟨_, rfl, by rw [HAN.out]; simp⟩, HB5.out⟩
    · have HAN : Hid ((l.any fun x => decide (f ≤ x.s.e)) = false) := hide (by have h1 := HR.out.2; rwa [List.take_of_length_le (by have := HN.out; omega)] at h1)
      go_wp2
      go_ret
      exact ⟨⟨_, rfl, by rw [HAN.out]; rfl⟩, HR.out.1⟩
set_option maxRecDepth 200000 in
set_option maxHeartbeats 1000000 in
theorem contains_any {w : World} {v : Value} {l : List Br} {b : Nat} {f : Int} (hv : Brs w v l) (hb : w.cell? ⟨b, 0, none⟩ = some (.int .i64 f)) : Calls Try.prog 20 #[v, .func (.func 21) #[] #[.pointer (some ⟨b, 0, none⟩)]] w fun e w' => e = .returned (.bool (l.any fun x => decide (f ≤ x.s.e))) ∧ Below w.heap.size w w' := by
  have HI := hide (indexF_any hv hb)
  obtain ⟨q, hq⟩ : ∃ q, (l.any fun x => decide (f ≤ x.s.e)) = q := ⟨_, rfl⟩
  rw [hq] at HI ⊢
  clear hv hb hq
  go_enter Try.func20, Try.ntmps20
  go_wp2_with fail
  refine HI.out.mono ?_
  rintro e w5 ⟨⟨i, rfl, hi⟩, hb5⟩
  have HB5 := hide hb5
  have HQ := hide hi
  clear hb5 hi
  go_wp2
  go_ret
  exact ⟨by rw [← HQ.out]; rfl, HB5.out⟩
end Go.Proofs.Ytimjplkehlgelaa
