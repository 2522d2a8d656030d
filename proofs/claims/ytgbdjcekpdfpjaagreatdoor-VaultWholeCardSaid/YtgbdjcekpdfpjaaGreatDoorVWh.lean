/- VaultWhole: a vault between its calls, what was there kept apart. -/
import Derived.Test.YtgbdjcekpdfpjaaGreatDoorVSh
import Derived.Test.YtgbdjcekpdfpjaaGreatDoorVSaveB
import Derived.Test.YtgbdjcekpdfpjaaGreatDoorVAwake
import Derived.Test.YtgbdjcekpdfpjaaGreatDoorVWhl
import Derived.Test.YtgbdjcekpdfpjaaGreatDoorVApd
namespace Go.Proofs.YtgbdjcekpdfpjaaGreatDoor
set_option linter.unusedVariables false
set_option linter.unusedSimpArgs false
open Go.RowKit

theorem good_many {S : Sn} (h : S = sn0 ∨ S.chk = 0) : S.vo.length ≤ 1000 ∧ S.da.length ≤ 300000 ∧ 0 ≤ S.ix ∧ S.ix ≤ 1099511627776 := by
  rcases h with rfl | h
  · decide
  · have := chk_ok h; omega
/-- What Last answers, of any state that may be there. -/
def LaA (w : World) (S : Sn) (e : Ending) (w' : World) : Prop := ∃ vo da, e = .returned (.tuple #[.agg #[.int .i64 S.ix, .int .i64 S.tm, vo, da], .bool (decide (0 < S.ix))]) ∧ OwnN w.heap.size w' vo S.vo ∧ Own w.heap.size w' da S.da ∧ Go.Proofs.YtgbdjcekpdfpjaaGreatDoor.fits S.ix ∧ Go.Proofs.YtgbdjcekpdfpjaaGreatDoor.fits S.tm ∧ Below w.heap.size w w'
theorem vlast_all {w : World} {b g : Nat} {vo da : Value} {s : Sn} (h : Vt w b vo da s g) (hg : s = sn0 ∨ s.chk = 0) : Calls Tryz.prog 35 #[.pointer (some ⟨b, 0, none⟩)] w (LaA w s) := by
  by_cases h0 : 0 < s.ix
  · have hl := good_many hg
    refine (vlast_any h h0 (by omega) (by omega)).mono ?_
    rintro e w' ⟨v, rfl, ⟨vo', da', rfl, h1, h2, h3, h4⟩, h5⟩
    exact ⟨vo', da', by rw [decide_eq_true h0], h1, h2, h3, h4, h5⟩
  · have hs : s = sn0 := by
      rcases hg with e | e
      · exact e
      · have := chk_ix e; omega
    refine (vlast_none h h0).mono ?_
    rintro e w' ⟨rfl, hb⟩
    subst hs
    exact ⟨_, _, rfl, OwnN.nil _ _, Own.nil _ _, by show Go.Proofs.YtgbdjcekpdfpjaaGreatDoor.fits 0; unfold Go.Proofs.YtgbdjcekpdfpjaaGreatDoor.fits; omega, by show Go.Proofs.YtgbdjcekpdfpjaaGreatDoor.fits 0; unfold Go.Proofs.YtgbdjcekpdfpjaaGreatDoor.fits; omega, hb⟩

/-- A vault between two Saves. -/
structure WhS (w3 w : World) (b dd : Nat) (S : Sn) (st : Dk) (j : Nat) : Prop where
  vlt : Vo w3 w (fun _ => False) b dd S st
  rest : Rest st S
  used : st.used ≤ j * 80000
  acts : st.acts.length ≤ 1
  room : st.room = 16777216
  fine : st.Fine (j * 1000) (j * 80000)
section
variable {w3 w : World} {b dd j : Nat} {S : Sn} {st : Dk}
theorem WhS.at (h : WhS w3 w b dd S st j) {w' : World} (hc : Chg w w' (fun _ => False)) : WhS w3 w' b dd S st j := ⟨h.vlt.at hc, h.rest, h.used, h.acts, h.room, h.fine⟩
theorem WhS.up (h : WhS w3 w b dd S st j) : WhS w3 w b dd S st (j + 1) :=
  ⟨h.vlt, h.rest, Nat.le_trans h.used (Nat.mul_le_mul_right _ (Nat.le_succ j)), h.acts, h.room, h.fine.mono (by omega) (by omega)⟩
theorem wh_plain {S k : Sn} {st : Dk} {j : Nat} (hr : Rest st S) (hu : st.used ≤ j * 80000) (ha : st.acts.length ≤ 1) (hroom : st.room = 16777216) (hf : st.Fine (j * 1000) (j * 80000)) (hj : j < 60) (hk : k.chk = 0) (hx : S.ix < k.ix) (hi : ∀ x ∈ k.vo, Go.Proofs.YtgbdjcekpdfpjaaGreatDoor.fits x) (hd : k.da.length ≤ 70000) :
    ∃ y, saveL S st k = (0, k, y) ∧ y.Quiet ∧ y.seen = filesOf k ∧ y.room = 16777216 ∧ y.used ≤ (j + 1) * 80000 ∧ y.acts.length ≤ 1 ∧ y.Fine ((j + 1) * 1000) ((j + 1) * 80000) ∧ k.recs.length ≤ 140 ∧ k.file.length ≤ 80000 := by
  have h1 := chk_ok hk
  have h2 := chk_parts hk
  have h3 := file_len (s := k) (by omega) hi (by omega) (by omega) (by omega)
  have h4 : k.recs.length ≤ 140 := by omega
  have h5 : k.file.length ≤ 80000 := by omega
  obtain ⟨y, q1, q2, q3, q4, q5, q6, q7, q8, q9⟩ := hr.save hk hx (by rw [hroom]; omega) (by omega)
  have hfi := saveL_fine hf S k (by omega)
  rw [q1] at hfi
  exact ⟨y, q1, q2, q3, by rw [q4, hroom], by omega, q8, hfi.mono (by omega) (by omega), h4, h5⟩
theorem few_recs {k : Sn} (hd : k.da.length ≤ 70000) : k.recs.length ≤ 140 := by
  have h := pieces_count k.da.length k.da
  have h' : k.pieces.length * 512 ≤ k.da.length + 511 := h
  rw [recs_len]
  omega
theorem few_bytes {k : Sn} (hk : k.chk = 0) (hi : ∀ x ∈ k.vo, Go.Proofs.YtgbdjcekpdfpjaaGreatDoor.fits x) (hd : k.da.length ≤ 70000) : k.file.length ≤ 80000 := by
  have h1 := chk_ok hk
  have h2 := chk_parts hk
  have h3 := file_len (s := k) (by omega) hi (by omega) (by omega) (by omega)
  omega
/-- How long a state's file can be. -/
theorem file_most {s : Sn} (h : s.chk = 0) : s.file.length ≤ 280000 := by
  have hh := head_le h
  have hd := (chk_parts h).2.2.2.2.2
  have hf := flat_len (s.head :: s.pieces) (fun p hp => by
    rcases List.mem_cons.1 hp with rfl | hp
    · omega
    · have := piece_le _ _ p hp; omega)
  have hpf : s.pieces.flatten = s.da := pieces_flat _ _ (Nat.le_refl _)
  have hpc : s.pieces.length * 512 ≤ s.da.length + 511 := pieces_count s.da.length s.da
  have : s.file.length = (((s.head :: s.pieces).map recL).flatten).length := rfl
  rw [this]
  simp only [List.flatten_cons, List.length_append, List.length_cons, hpf] at hf
  omega
theorem files_most {S : Sn} (h : S = sn0 ∨ S.chk = 0) : total (filesOf S) ≤ 280000 := by
  rcases h with rfl | h
  · simp [filesOf, sn0, total]
  · have h1 := chk_ix h
    have h2 := file_most h
    unfold filesOf
    rw [if_pos (by omega)]
    simpa [total] using h2

theorem wh_save {k : Sn} {kv : Value} (h : WhS w3 w b dd S st j) (hk : SnV w kv k) (ht : Tab w3) (hj : j < 50) (hfr : ∀ x ∈ k.vo, Go.Proofs.YtgbdjcekpdfpjaaGreatDoor.fits x) (hdn : k.da.length ≤ 70000) :
    Calls Tryz.prog 22 #[.pointer (some ⟨b, 0, none⟩), kv] w fun e w' => ∃ (c : Nat) (S' : Sn) (st' : Dk), e = .returned (.int .i64 (c : Nat)) ∧ WhS w3 w' b dd S' st' (j + 1) := by
  have hrl := few_recs hdn
  by_cases hck : k.chk = 0
  · have hkl := good_many (.inr hck)
    have hfl := few_bytes hck hfr hdn
    have hsv := h.vlt.save hk ht (good_many h.rest.good).2.2 h.fine (by omega) hkl.1 hkl.2.1 (by omega) (by omega)
    refine hsv.mono ?_
    rintro e w' ⟨rfl, hv, hc⟩
    by_cases hix : S.ix < k.ix
    · obtain ⟨y, hy1, hy2, hy3, hy4, hy5, hy6, hy7, hy8, hy9⟩ := wh_plain h.rest h.used h.acts h.room h.fine (by omega) hck hix hfr hdn
      rw [hy1] at hv ⊢
      exact ⟨_, k, y, rfl, hv, ⟨hy2, hv.ok, hy3, .inr hck⟩, hy5, hy6, hy4, hy7⟩
    · rw [save_old hck (by omega)] at hv ⊢
      exact ⟨_, S, st, rfl, WhS.up ⟨hv, h.rest, h.used, h.acts, h.room, h.fine⟩⟩
  · obtain ⟨vo, da, hvt⟩ := h.vlt.vt
    refine (vsave_bad hvt hk hck).mono ?_
    rintro e w' ⟨rfl, hb⟩
    exact ⟨_, S, st, rfl, (h.at (Chg.of_below hb _)).up⟩
/-- All that was kept is synced. -/
theorem wh_sync {S : Sn} {st : Dk} {n U : Nat} (hr : Rest st S) (hroom : st.room = 16777216) (hf : st.Fine n U) : ∃ y, st.sync = (0, y) ∧ y.down = false ∧ y.last = filesOf S ∧ y.acts = [] ∧ y.room = 16777216 ∧ y.used ≤ 280000 ∧ y.Fine 0 280000 := by
  have hs := hr.q.sync
  obtain ⟨y, hy⟩ : ∃ y, ({ st with fn := 0, last := st.seen, acts := [] } : Dk) = y := ⟨_, rfl⟩
  rw [hy] at hs
  have hfs := hf.sync
  rw [hs] at hfs
  have hl : y.last = filesOf S := by rw [← hy]; exact hr.seen
  have ha : y.acts = [] := by rw [← hy]
  have hu : y.used ≤ 280000 := by
    unfold Dk.used
    rw [hl, ha]
    have := files_most hr.good
    have h0 : sizes [] = 0 := rfl
    omega
  exact ⟨y, hs, by rw [← hy]; exact hr.q.down, hl, ha, by rw [← hy]; exact hroom, hu, ⟨hfs.ok, hfs.nl, hfs.na, hfs.k1, hfs.k2, hfs.t1, hfs.t2, by rw [ha]; exact Nat.le_refl _, hu⟩⟩
theorem wh_arm {y : Dk} (hd : y.down = false) (n K T : Int) : ∃ z, y.arm n K T = (0, z) ∧ z.down = false ∧ z.last = y.last ∧ z.acts = y.acts ∧ z.room = y.room ∧ z.used = y.used := by
  unfold Dk.arm
  rw [if_neg (by rw [hd]; simp)]
  exact ⟨_, rfl, hd, rfl, rfl, rfl, rfl⟩
theorem wh_save2 {K : Nat → Prop} {k : Sn} {kv : Value} {z : Dk} {n U : Nat} (h : Vo w3 w K b dd S z) (hk : SnV w kv k) (ht : Tab w3) (hg : S = sn0 ∨ S.chk = 0) (hf : z.Fine n U) (hn : n ≤ 700000) (hfr : ∀ x ∈ k.vo, Go.Proofs.YtgbdjcekpdfpjaaGreatDoor.fits x) (hdn : k.da.length ≤ 70000) :
    Calls Tryz.prog 22 #[.pointer (some ⟨b, 0, none⟩), kv] w (VoR w3 w K b dd (saveL S z k)) := by
  have hrl := few_recs hdn
  by_cases hck : k.chk = 0
  · have hkl := good_many (.inr hck)
    have hfl := few_bytes hck hfr hdn
    exact h.save hk ht (good_many hg).2.2 hf (by omega) hkl.1 hkl.2.1 (by omega) (by omega)
  · obtain ⟨vo, da, hvt⟩ := h.vt
    refine (vsave_bad hvt hk hck).mono ?_
    rintro e w' ⟨rfl, hb⟩
    rw [save_bad hck]
    exact ⟨rfl, h.at (Chg.of_below hb _), Chg.of_below hb _⟩
end

/-- The act at which the power goes. -/
theorem wh_num (n : Int) : ∃ z q m : Nat, IntKind.u64.wrap n = (z : Int) ∧ (z : Int).tmod 12 = (q : Int) ∧ wrap64 (q : Int) = (q : Int) ∧ IntKind.i64.wrap (q : Int) = (q : Int) ∧ wrap64 (1 + (q : Int)) = (m : Int) ∧ IntKind.i64.wrap (1 + (q : Int)) = (m : Int) ∧ (m : Int) ≤ 9223372036854775807 ∧ -9223372036854775808 ≤ (m : Int) := by
  obtain ⟨z, e5⟩ : ∃ z : Nat, IntKind.u64.wrap n = (z : Int) := by
    have h0 : 0 ≤ IntKind.u64.wrap n := by rw [IntKind.wrap_u64]; omega
    exact ⟨(IntKind.u64.wrap n).toNat, by omega⟩
  obtain ⟨q, hq⟩ : ∃ q : Nat, z % 12 = q := ⟨_, rfl⟩
  have hql : q ≤ 11 := by omega
  have e6 : (z : Int).tmod 12 = (q : Int) := by
    rw [Int.tmod_eq_emod_of_nonneg (by omega), ← hq]
    simp
  refine ⟨z, q, 1 + q, e5, e6, ?_, ?_, ?_, ?_, ?_, ?_⟩
  all_goals clear e5 e6 hq
  · unfold wrap64; omega
  · rw [IntKind.wrap_i64]; omega
  · unfold wrap64; omega
  · rw [IntKind.wrap_i64]; omega
  · omega
  · omega
theorem fit_parts {x : Int} (h : Go.Proofs.YtgbdjcekpdfpjaaGreatDoor.fits x) : x ≤ 9223372036854775807 ∧ -9223372036854775808 ≤ x := ⟨h.2, h.1⟩

/-- What was there, in its block g. -/
structure Was (w : World) (K : Nat → Prop) (g : Nat) (S : Sn) (vo da : Value) : Prop where
  kg : K g
  row : w.heap[g]? = some (.cells #[.int .i64 S.ix, .int .i64 S.tm, vo, da] 42 (0, 0))
  ns : Ns w vo S.vo
  by_ : By w da S.da
  l1 : Lies K vo S.vo
  l2 : Lies K da S.da
  f0 : Go.Proofs.YtgbdjcekpdfpjaaGreatDoor.fits S.ix
  f1 : Go.Proofs.YtgbdjcekpdfpjaaGreatDoor.fits S.tm
section
variable {w w' : World} {K T : Nat → Prop} {g : Nat} {S : Sn} {vo da : Value}
theorem Was.chg (h : Was w K g S vo da) (hc : Chg w w' T) (hT : ∀ i, T i → ¬ K i) : Was w' K g S vo da :=
  ⟨h.kg, (hc.block g (Array.getElem?_eq_some_iff.1 h.row).1 fun e => hT g e h.kg).trans h.row, h.ns.chg hc (h.l1.mono fun k hk e => hT k e hk), h.by_.chg hc (h.l2.mono fun k hk e => hT k e hk), h.l1, h.l2, h.f0, h.f1⟩
theorem Was.below (h : Was w K g S vo da) (hb : Below w.heap.size w w') : Was w' K g S vo da := h.chg (Chg.of_below hb (fun _ => False)) fun i e => e.elim
theorem Was.snv (h : Was w K g S vo da) : SnV w (.agg #[.int .i64 S.ix, .int .i64 S.tm, vo, da]) S := ⟨vo, da, rfl, h.ns, h.by_, h.f0, h.f1⟩
theorem Was.c0 (h : Was w K g S vo da) : w.cell? ⟨g, 0, none⟩ = some (.int .i64 S.ix) := by rw [cell_of_row w g 0 _ 42 (0, 0) h.row]; rfl
theorem Was.c1 (h : Was w K g S vo da) : w.cell? ⟨g, 1, none⟩ = some (.int .i64 S.tm) := by rw [cell_of_row w g 1 _ 42 (0, 0) h.row]; rfl
theorem Was.c2 (h : Was w K g S vo da) : w.cell? ⟨g, 2, none⟩ = some vo := by rw [cell_of_row w g 2 _ 42 (0, 0) h.row]; rfl
theorem Was.c3 (h : Was w K g S vo da) : w.cell? ⟨g, 3, none⟩ = some da := by rw [cell_of_row w g 3 _ 42 (0, 0) h.row]; rfl
theorem Was.made {w0 : World} {g : Nat} (h1 : OwnN w0.heap.size w vo S.vo) (h2 : Own w0.heap.size w da S.da) (f0 : Go.Proofs.YtgbdjcekpdfpjaaGreatDoor.fits S.ix) (f1 : Go.Proofs.YtgbdjcekpdfpjaaGreatDoor.fits S.tm) (hb : Below w.heap.size w w') (hg : w'.heap[g]? = some (.cells #[.int .i64 S.ix, .int .i64 S.tm, vo, da] 42 (0, 0))) (hk : ∀ i, w0.heap.size ≤ i → i < w'.heap.size → K i) (hgg : w0.heap.size ≤ g) : Was w' K g S vo da := by
  have hl := (Array.getElem?_eq_some_iff.1 hg).1
  have hs := hb.size
  have l1 : Lies K vo S.vo := .inr fun k hkk => by have := h1.lt k hkk; exact hk k this.1 (by omega)
  have l2 : Lies K da S.da := own_lies h2 fun k hkk => hk k hkk.1 (by omega)
  exact ⟨hk g hgg hl, hg, h1.ns.below hb, h2.by_.below hb, l1, l2, f0, f1⟩
end
end Go.Proofs.YtgbdjcekpdfpjaaGreatDoor
