/- VaultNewer: the law, up to its loop. -/
import Derived.Test.YtgbdjcekpdfpjaaGreatDoorVSh
import Derived.Test.YtgbdjcekpdfpjaaGreatDoorVRCheck
import Derived.Test.YtgbdjcekpdfpjaaGreatDoorVAwake
import Derived.Test.YtgbdjcekpdfpjaaGreatDoorVSaveB
namespace Go.Proofs.YtgbdjcekpdfpjaaGreatDoor
set_option linter.unusedVariables false
set_option linter.unusedSimpArgs false
open Go.RowKit

/-- Between two rounds: the vault, and the best state so far in its block g6; K is what is kept from the vault's calls. -/
structure NwS (w3 w : World) (b dd g6 : Nat) (S : Sn) (st : Dk) (j : Nat) (K : Nat → Prop) (vo da : Value) : Prop where
  vlt : Vo w3 w K b dd S st
  ge : ∀ i, K i → w3.heap.size ≤ i
  kg : K g6
  row : w.heap[g6]? = some (.cells #[.int .i64 S.ix, .int .i64 S.tm, vo, da] 42 (0, 0))
  ns : Ns w vo S.vo
  by_ : By w da S.da
  l1 : Lies K vo S.vo
  l2 : Lies K da S.da
  f0 : Go.Proofs.YtgbdjcekpdfpjaaGreatDoor.fits S.ix
  f1 : Go.Proofs.YtgbdjcekpdfpjaaGreatDoor.fits S.tm
  rest : Rest st S
  used : st.used ≤ j * 80000
  acts : st.acts.length ≤ 1
  room : st.room = 16777216
  fine : st.Fine (j * 1000) (j * 80000)
theorem NwS.at {w3 w w' : World} {b dd g6 : Nat} {S : Sn} {st : Dk} {j : Nat} {K : Nat → Prop} {vo da : Value} (h : NwS w3 w b dd g6 S st j K vo da) (hb : Below w.heap.size w w') : NwS w3 w' b dd g6 S st j (fun i => K i ∨ (w.heap.size ≤ i ∧ i < w'.heap.size)) vo da := by
  have hl := (Array.getElem?_eq_some_iff.1 h.row).1
  have hs := h.vlt.below.size
  exact ⟨h.vlt.new (Chg.of_below hb _) (N := fun i => w.heap.size ≤ i ∧ i < w'.heap.size) (fun i hi => hi), fun i hi => hi.elim (h.ge i) fun hi => by omega, .inl h.kg, (hb.block _ hl).trans h.row, h.ns.below hb, h.by_.below hb, h.l1.mono fun k hk => .inl hk, h.l2.mono fun k hk => .inl hk, h.f0, h.f1, h.rest, h.used, h.acts, h.room, h.fine⟩
/-- A state that may be kept, and is newer. -/
theorem nw_save {S k : Sn} {st : Dk} {j : Nat} (hr : Rest st S) (hu : st.used ≤ j * 80000) (ha : st.acts.length ≤ 1) (hroom : st.room = 16777216) (hf : st.Fine (j * 1000) (j * 80000)) (hj : j < 60) (hk : k.chk = 0) (hx : S.ix < k.ix) (hi : ∀ x ∈ k.vo, Go.Proofs.YtgbdjcekpdfpjaaGreatDoor.fits x) (hd : k.da.length ≤ 70000) :
    ∃ y, saveL S st k = (0, k, y) ∧ y.Quiet ∧ y.seen = filesOf k ∧ y.room = 16777216 ∧ y.used ≤ (j + 1) * 80000 ∧ y.acts.length ≤ 1 ∧ y.Fine ((j + 1) * 1000) ((j + 1) * 80000) ∧ k.recs.length ≤ 140 ∧ k.file.length ≤ 80000 := by
  have h1 := chk_ok hk
  have h2 := chk_parts hk
  have h3 := file_len (s := k) (by omega) hi (by omega) (by omega) (by omega)
  have h4 : k.recs.length ≤ 140 := by omega
  have h5 : k.file.length ≤ 80000 := by omega
  obtain ⟨y, q1, q2, q3, q4, q5, q6, q7, q8, q9⟩ := hr.save hk hx (by rw [hroom]; omega) (by omega)
  have hfi := saveL_fine hf S k (by omega)
  rw [q1] at hfi
  exact ⟨y, q1, q2, q3, by rw [q4, hroom], by omega, q8, hfi.mono (by omega) (by omega), h4, h5⟩

theorem ownN_lies {B : Nat} {w : World} {v : Value} {l : List Int} {P : Nat → Prop} (h : OwnN B w v l) (hp : ∀ k, B ≤ k ∧ k < w.heap.size → P k) : Lies P v l := .inr fun k hk => hp k (h.lt k hk)
/-- As it was, one round on. -/
theorem NwS.up {w3 w : World} {b dd g6 : Nat} {S : Sn} {st : Dk} {j : Nat} {K : Nat → Prop} {vo da : Value} (h : NwS w3 w b dd g6 S st j K vo da) : NwS w3 w b dd g6 S st (j + 1) K vo da :=
  ⟨h.vlt, h.ge, h.kg, h.row, h.ns, h.by_, h.l1, h.l2, h.f0, h.f1, h.rest, Nat.le_trans h.used (Nat.mul_le_mul_right _ (Nat.le_succ j)), h.acts, h.room, h.fine.mono (by omega) (by omega)⟩
/-- What a Save leaves of what is kept. -/
theorem NwS.kept {w3 w w' : World} {b dd g6 : Nat} {S : Sn} {st : Dk} {j : Nat} {K : Nat → Prop} {vo da : Value} (h : NwS w3 w b dd g6 S st j K vo da) (hv : Vo w3 w' K b dd S st) (hc : Chg w w' (fun i => ¬ K i ∧ w3.heap.size ≤ i)) : NwS w3 w' b dd g6 S st j K vo da :=
  ⟨hv, h.ge, h.kg, (hc.block g6 (h.vlt.lt _ h.kg) fun e => e.1 h.kg).trans h.row, h.ns.chg hc (h.l1.mono fun k hk e => e.1 hk), h.by_.chg hc (h.l2.mono fun k hk e => e.1 hk), h.l1, h.l2, h.f0, h.f1, h.rest, h.used, h.acts, h.room, h.fine⟩
/-- The best state is a new one. -/
theorem NwS.next {w3 w w' : World} {b dd g6 B : Nat} {k : Sn} {y : Dk} {j : Nat} {K : Nat → Prop} {vo da : Value} (hv : Vo w3 w K b dd k y) (hge : ∀ i, K i → w3.heap.size ≤ i) (hkg : K g6) (hgB : g6 < B) (hBK : ∀ i, B ≤ i → i < w.heap.size → K i)
    (hn : OwnN B w vo k.vo) (hb : Own B w da k.da) (f0 : Go.Proofs.YtgbdjcekpdfpjaaGreatDoor.fits k.ix) (f1 : Go.Proofs.YtgbdjcekpdfpjaaGreatDoor.fits k.tm) (hc : Chg w w' (fun i => i = g6)) (hrow : w'.heap[g6]? = some (.cells #[.int .i64 k.ix, .int .i64 k.tm, vo, da] 42 (0, 0)))
    (hr : Rest y k) (hu : y.used ≤ j * 80000) (ha : y.acts.length ≤ 1) (hroom : y.room = 16777216) (hf : y.Fine (j * 1000) (j * 80000)) : NwS w3 w' b dd g6 k y j K vo da := by
  have l1 : Lies (fun i => B ≤ i ∧ i < w.heap.size) vo k.vo := ownN_lies hn fun i hi => hi
  have l2 : Lies (fun i => B ≤ i ∧ i < w.heap.size) da k.da := own_lies hb fun i hi => hi
  exact ⟨hv.mut (hc.mono' fun i e => e ▸ hkg) hge, hge, hkg, hrow, hn.ns.chg hc (l1.mono fun i hi e => by omega), hb.by_.chg hc (l2.mono fun i hi e => by omega), l1.mono fun i hi => hBK i hi.1 hi.2, l2.mono fun i hi => hBK i hi.1 hi.2, f0, f1, hr, hu, ha, hroom, hf⟩
theorem good_len {S : Sn} (h : S = sn0 ∨ S.chk = 0) : S.vo.length ≤ 1000 ∧ S.da.length ≤ 300000 ∧ 0 ≤ S.ix ∧ S.ix ≤ 1099511627776 := by
  rcases h with rfl | h
  · decide
  · have := chk_ok h; omega
theorem daN_at : ∀ {D : List Ddo} {j : Nat} {d : Ddo}, D[j]? = some d → d.sd.length ≤ daN D
  | a :: r, 0, d, h => by simp at h; subst h; simp [daN]
  | a :: r, j + 1, d, h => by
    have := daN_at (D := r) (j := j) (by simpa using h)
    simp [daN] at this ⊢
    omega
theorem NwS.good {w3 w : World} {b dd g6 : Nat} {S : Sn} {st : Dk} {j : Nat} {K : Nat → Prop} {vo da : Value} (h : NwS w3 w b dd g6 S st j K vo da) : S = sn0 ∨ S.chk = 0 := h.rest.good
theorem NwS.zero {w3 w : World} {b dd g6 : Nat} {S : Sn} {st : Dk} {j : Nat} {K : Nat → Prop} {vo da : Value} (h : NwS w3 w b dd g6 S st j K vo da) (h0 : ¬ 0 < S.ix) : sn0 = S := by
  rcases h.good with e | e
  · exact e.symm
  · have := chk_ix e; omega
theorem NwS.bound {w3 w : World} {b dd g6 : Nat} {S : Sn} {st : Dk} {j : Nat} {K : Nat → Prop} {vo da : Value} (h : NwS w3 w b dd g6 S st j K vo da) : Below w3.heap.size w3 w := h.vlt.below
theorem NwS.sl {w3 w : World} {b dd g6 : Nat} {S : Sn} {st : Dk} {j : Nat} {K : Nat → Prop} {vo da : Value} (h : NwS w3 w b dd g6 S st j K vo da) : (∃ p n c, vo = .slice p n c) ∧ ∃ p n c, da = .slice p n c := ⟨h.ns.sl, h.by_.sl⟩
theorem NwS.snv {w3 w : World} {b dd g6 : Nat} {S : Sn} {st : Dk} {j : Nat} {K : Nat → Prop} {vo da : Value} (h : NwS w3 w b dd g6 S st j K vo da) : SnV w (.agg #[.int .i64 S.ix, .int .i64 S.tm, vo, da]) S := ⟨vo, da, rfl, h.ns, h.by_, h.f0, h.f1⟩
theorem NwS.cells {w3 w : World} {b dd g6 : Nat} {S : Sn} {st : Dk} {j : Nat} {K : Nat → Prop} {vo da : Value} (h : NwS w3 w b dd g6 S st j K vo da) : w.cell? ⟨g6, 0, none⟩ = some (.int .i64 S.ix) ∧ w.cell? ⟨g6, 1, none⟩ = some (.int .i64 S.tm) ∧ w.cell? ⟨g6, 2, none⟩ = some vo ∧ w.cell? ⟨g6, 3, none⟩ = some da := by
  refine ⟨?_, ?_, ?_, ?_⟩
  · rw [cell_of_row w _ 0 _ _ (0, 0) h.row]; rfl
  · rw [cell_of_row w _ 1 _ _ (0, 0) h.row]; rfl
  · rw [cell_of_row w _ 2 _ _ (0, 0) h.row]; rfl
  · rw [cell_of_row w _ 3 _ _ (0, 0) h.row]; rfl

set_option maxRecDepth 200000 in
set_option maxHeartbeats 40000000 in
theorem lawVNewer_any {w : World} (ht : Tab w) {v : Value} {D : List Ddo} (h : Ddos w v D) (hz : ∀ (k : Nat) d, D[k]? = some d → d.sv.length * 8 ≤ 140737488351232) :
    Calls Tryz.prog 7 #[v] w fun e w' => e = .returned (.bool true) ∧ Below w.heap.size w w' := by
  have HSH := hide (vshort_any h)
  obtain ⟨p, c, rfl, hc1, hc2, hat⟩ := h
  obtain ⟨len, hlen⟩ : ∃ len, D.length = len := ⟨_, rfl⟩
  rw [hlen] at hc1 HSH ⊢
  unfold maxLen at hc2
  have HAT := hide hat
  have HZ := hide hz
  have HL := hide hlen
  have HT := hide ht
  have HAW := hide (fun (W : World) (hb : Below w.heap.size w W) => vawake_any (ht.below hb ht.lt))
  clear hat hz hlen ht
  go_enter Tryz.func7, Tryz.ntmps7
  go_wp2_with fail
  refine HSH.out.mono ?_
  rintro e w1 ⟨bs, rfl, hb1, hs⟩
  have HB1 := hide hb1
  have HS := hide hs
  clear hb1 hs
  cases bs
  · go_wp2_with (go_at_call 12; refine (HAW.out _ HB1.out).mono ?_; rintro e wz ⟨rfl, hbz⟩)
    go_ret
    exact ⟨rfl, HB1.out.trans (hbz.mono HB1.out.size)⟩
  · have hs2 := HS.out rfl
    have HS2 := hide (show len ≤ 40 ∧ daN D ≤ 65536 from ⟨by have := HL.out; omega, hs2.2⟩)
    have HT1 := hide (HT.out.below HB1.out HT.out.lt)
    have HBG := hide (begun_any HT1.out (r := 16777216) (by omega))
    clear hs2
    go_wp2_with fail
    refine HBG.out.mono ?_
    rintro e w4 ⟨dd, b, rfl, hv4⟩
    obtain ⟨W5, hW5⟩ : ∃ W5, w4.alloc (.cells #[.int .i64 0, .int .i64 0, .slice none 0 0, .slice none 0 0] 42) = W5 := ⟨_, rfl⟩
    have hnw : NwS w1 W5 b dd w4.heap.size sn0 (Dk.new 16777216) 0 (fun i => False ∨ i = w4.heap.size) (.slice none 0 0) (.slice none 0 0) := by
      have hsz := hv4.below.size
      refine ⟨hv4.new (by rw [← hW5]; exact Chg.of_alloc _ _ _) (N := fun i => i = w4.heap.size) (fun i hi => ⟨by omega, by rw [← hW5]; simp; omega⟩), fun i hi => hi.elim (fun h => h.elim) fun hi => by omega, .inr rfl, by rw [← hW5]; exact Array.getElem?_push_size, ?_, By.nil _, .inl rfl, .inl rfl, by show Go.Proofs.YtgbdjcekpdfpjaaGreatDoor.fits 0; unfold Go.Proofs.YtgbdjcekpdfpjaaGreatDoor.fits; omega, by show Go.Proofs.YtgbdjcekpdfpjaaGreatDoor.fits 0; unfold Go.Proofs.YtgbdjcekpdfpjaaGreatDoor.fits; omega, rest_new (by omega), by simp [Dk.new, Dk.used, total, sizes], by simp [Dk.new], rfl, ?_⟩
      · exact Ns.nil _
      · exact Dk.Fine.new (r := 16777216) (by omega)
    have HNW := hide hnw
    obtain ⟨g6, hg6⟩ : ∃ g6, w4.heap.size = g6 := ⟨_, rfl⟩
    rw [hg6] at HNW
    have HW5 := hide hW5
    have HG6 := hide hg6
    clear hnw hv4 HBG HS HSH hW5 hg6
    go_wp2_with fail
    rw [HW5.out, HG6.out]
    clear HW5 HG6
    go_loopw [7, 9, 10, 11, 12, 13, 14, 29] (fun u7 _ _ _ _ _ _ i wr => ∃ j : Nat, j ≤ len ∧ i = .int .i64 j ∧ ∃ sb : Bool, u7 = .bool sb ∧ Hid (∃ S st K vo da, sb = decide (0 < S.ix) ∧ NwS w1 wr b dd g6 S st j K vo da)) (fun _ _ _ _ _ _ _ i _ => len - (intOf i).toNat)
    case atStart => exact ⟨0, Nat.zero_le _, rfl, false, rfl, hide ⟨_, _, _, _, _, rfl, HNW.out⟩⟩
    case round =>
      obtain ⟨j, hj, rfl, sb, rfl, hrel⟩ := hrel
      obtain ⟨S, st, K, vo, da, hsb, hN⟩ := hrel.out
      have HN := hide hN
      have HSB := hide hsb
      clear hN hrel hsb HNW
      by_cases hjn : (j : Int) < (len : Int)
      · obtain ⟨d, hd⟩ : ∃ d, D[j]? = some d := ⟨_, List.getElem?_eq_getElem (by have := HL.out; omega)⟩
        obtain ⟨gl, o, rfl, hin, hcell⟩ := HAT.out j d hd
        obtain ⟨oo, hoo⟩ : ∃ oo, o + j * 9 = oo := ⟨_, rfl⟩
        rw [hoo] at hcell
        have hbw := HB1.out.trans (HN.out.bound.mono HB1.out.size)
        have e0 : wr.cell? ⟨gl, oo, none⟩ = some (.int .i64 d.op) := (hbw.cell (lt_of_cell (hcell 0 _ rfl))).trans (hcell 0 _ rfl)
        have e1 : wr.cell? ⟨gl, oo + 1, none⟩ = some (.int .i64 d.six) := (hbw.cell (lt_of_cell (hcell 1 _ rfl))).trans (hcell 1 _ rfl)
        have e2 : wr.cell? ⟨gl, oo + 2, none⟩ = some (.int .i64 d.stm) := (hbw.cell (lt_of_cell (hcell 2 _ rfl))).trans (hcell 2 _ rfl)
        have e3 : wr.cell? ⟨gl, oo + 3, none⟩ = some (.slice d.psv d.nsv d.dsv) := (hbw.cell (lt_of_cell (hcell 3 _ rfl))).trans (hcell 3 _ rfl)
        have e4 : wr.cell? ⟨gl, oo + 4, none⟩ = some (.slice d.psd d.nsd d.dsd) := (hbw.cell (lt_of_cell (hcell 4 _ rfl))).trans (hcell 4 _ rfl)
        have e5 : wr.cell? ⟨gl, oo + 5, none⟩ = some (.int .i64 d.size) := (hbw.cell (lt_of_cell (hcell 5 _ rfl))).trans (hcell 5 _ rfl)
        have e6 : wr.cell? ⟨gl, oo + 6, none⟩ = some (.int .i64 d.n) := (hbw.cell (lt_of_cell (hcell 6 _ rfl))).trans (hcell 6 _ rfl)
        have e7 : wr.cell? ⟨gl, oo + 7, none⟩ = some (.int .i64 d.keep) := (hbw.cell (lt_of_cell (hcell 7 _ rfl))).trans (hcell 7 _ rfl)
        have e8 : wr.cell? ⟨gl, oo + 8, none⟩ = some (.int .i64 d.tear) := (hbw.cell (lt_of_cell (hcell 8 _ rfl))).trans (hcell 8 _ rfl)
        obtain ⟨W2, hW2⟩ : ∃ W2, wr.alloc (.cells #[.int .i64 d.op, .int .i64 d.six, .int .i64 d.stm, .slice d.psv d.nsv d.dsv, .slice d.psd d.nsd d.dsd, .int .i64 d.size, .int .i64 d.n, .int .i64 d.keep, .int .i64 d.tear] 44) = W2 := ⟨_, rfl⟩
        have hb2 : Below wr.heap.size wr W2 := by rw [← hW2]; exact balloc (Below.refl _ _) _
        have hr2 : W2.heap[wr.heap.size]? = some (.cells #[.int .i64 d.op, .int .i64 d.six, .int .i64 d.stm, .slice d.psv d.nsv d.dsv, .slice d.psd d.nsd d.dsd, .int .i64 d.size, .int .i64 d.n, .int .i64 d.keep, .int .i64 d.tear] 44 (0, 0)) := by rw [← hW2]; exact Array.getElem?_push_size
        have hs2 : W2.heap.size = wr.heap.size + 1 := by rw [← hW2]; simp
        have b0 : W2.cell? ⟨wr.heap.size, 0, none⟩ = some (.int .i64 d.op) := by rw [cell_of_row W2 _ 0 _ _ (0, 0) hr2]; rfl
        have b1 : W2.cell? ⟨wr.heap.size, 1, none⟩ = some (.int .i64 d.six) := by rw [cell_of_row W2 _ 1 _ _ (0, 0) hr2]; rfl
        have b2 : W2.cell? ⟨wr.heap.size, 2, none⟩ = some (.int .i64 d.stm) := by rw [cell_of_row W2 _ 2 _ _ (0, 0) hr2]; rfl
        have b3 : W2.cell? ⟨wr.heap.size, 3, none⟩ = some (.slice d.psv d.nsv d.dsv) := by rw [cell_of_row W2 _ 3 _ _ (0, 0) hr2]; rfl
        have b4 : W2.cell? ⟨wr.heap.size, 4, none⟩ = some (.slice d.psd d.nsd d.dsd) := by rw [cell_of_row W2 _ 4 _ _ (0, 0) hr2]; rfl
        have b5 : W2.cell? ⟨wr.heap.size, 5, none⟩ = some (.int .i64 d.size) := by rw [cell_of_row W2 _ 5 _ _ (0, 0) hr2]; rfl
        have b6 : W2.cell? ⟨wr.heap.size, 6, none⟩ = some (.int .i64 d.n) := by rw [cell_of_row W2 _ 6 _ _ (0, 0) hr2]; rfl
        have b7 : W2.cell? ⟨wr.heap.size, 7, none⟩ = some (.int .i64 d.keep) := by rw [cell_of_row W2 _ 7 _ _ (0, 0) hr2]; rfl
        have b8 : W2.cell? ⟨wr.heap.size, 8, none⟩ = some (.int .i64 d.tear) := by rw [cell_of_row W2 _ 8 _ _ (0, 0) hr2]; rfl
        have HSN := hide (show ∀ W : World, Below w1.heap.size w1 W → Calls Tryz.prog 21 #[.agg #[.int .i64 d.op, .int .i64 d.six, .int .i64 d.stm, .slice d.psv d.nsv d.dsv, .slice d.psd d.nsd d.dsd, .int .i64 d.size, .int .i64 d.n, .int .i64 d.keep, .int .i64 d.tear]] W (OwP W d.sn) from fun W hW => vsnap_any (hin.below (HB1.out.trans (hW.mono HB1.out.size))) (by have := HZ.out j d hd; omega) (by have := daN_at hd; have := HS2.out.2; omega))
        have HDN := hide (show d.sn.da.length ≤ 70000 from by
          show (d.sd ++ List.replicate d.zs 0).length ≤ 70000
          have h1 := daN_at hd
          have h2 : d.zs < 3000 := Nat.mod_lt _ (by omega)
          have h3 := HS2.out.2
          simp
          omega)
        have HFR := hide (show ∀ x ∈ d.sn.vo, Go.Proofs.YtgbdjcekpdfpjaaGreatDoor.fits x from hin.h1.fits)
        obtain ⟨kk, hkk⟩ : ∃ kk, d.sn = kk := ⟨_, rfl⟩
        rw [hkk] at HSN HDN HFR
        have HB2 := hide hb2
        have HR2 := hide hr2
        have HS2' := hide hs2
        have HHD := hide (And.intro hbw hd)
        clear hin hcell hbw hd hb2 hr2 hs2 hkk
        go_wp2_with fail
        clear e0 e1 e2 e3 e4 e5 e6 e7 e8 hoo hW2
        refine (HSN.out W2 (HN.out.bound.trans (HB2.out.mono HN.out.bound.size))).mono ?_
        rintro e w3 ⟨v3, rfl, ho3, hb3⟩
        clear b0 b1 b2 b3 b4 b5 b6 b7 b8
        obtain ⟨vs3, ds3, rfl, hvs3, hds3, f30, f31⟩ := ho3
        obtain ⟨pv3, nv3, cv3, rfl⟩ := hvs3.ns.sl
        obtain ⟨pd3, nd3, cd3, rfl⟩ := hds3.by_.sl
        obtain ⟨W4, hW4⟩ : ∃ W4, w3.alloc (.cells #[.int .i64 kk.ix, .int .i64 kk.tm, .slice pv3 nv3 cv3, .slice pd3 nd3 cd3] 42) = W4 := ⟨_, rfl⟩
        have hb4 : Below w3.heap.size w3 W4 := by rw [← hW4]; exact balloc (Below.refl _ _) _
        have hr4 : W4.heap[w3.heap.size]? = some (.cells #[.int .i64 kk.ix, .int .i64 kk.tm, .slice pv3 nv3 cv3, .slice pd3 nd3 cd3] 42 (0, 0)) := by rw [← hW4]; exact Array.getElem?_push_size
        have hsv4 : SnV W4 (.agg #[.int .i64 kk.ix, .int .i64 kk.tm, .slice pv3 nv3 cv3, .slice pd3 nd3 cd3]) kk := ⟨_, _, rfl, hvs3.ns.below hb4, hds3.by_.below hb4, f30, f31⟩
        have s0 : W4.cell? ⟨w3.heap.size, 0, none⟩ = some (.int .i64 kk.ix) := by rw [cell_of_row W4 _ 0 _ _ (0, 0) hr4]; rfl
        have s1 : W4.cell? ⟨w3.heap.size, 1, none⟩ = some (.int .i64 kk.tm) := by rw [cell_of_row W4 _ 1 _ _ (0, 0) hr4]; rfl
        have s2 : W4.cell? ⟨w3.heap.size, 2, none⟩ = some (.slice pv3 nv3 cv3) := by rw [cell_of_row W4 _ 2 _ _ (0, 0) hr4]; rfl
        have s3 : W4.cell? ⟨w3.heap.size, 3, none⟩ = some (.slice pd3 nd3 cd3) := by rw [cell_of_row W4 _ 3 _ _ (0, 0) hr4]; rfl
        have hz4 : wr.heap.size < W4.heap.size ∧ w3.heap.size < W4.heap.size ∧ W2.heap.size ≤ w3.heap.size := ⟨by have := HS2'.out; have := hb3.size; have := hb4.size; omega, by rw [← hW4]; simp, hb3.size⟩
        have hbb := (HB2.out.trans (hb3.mono HB2.out.size))
        have HN4 := hide (HN.out.at (hbb.trans (hb4.mono hbb.size)))
        obtain ⟨K4, hK4⟩ : ∃ K4, (fun i => K i ∨ (wr.heap.size ≤ i ∧ i < W4.heap.size)) = K4 := ⟨_, rfl⟩
        have HKK := hide (show ∀ i, wr.heap.size ≤ i → i < W4.heap.size → K4 i from fun i h1 h2 => by rw [← hK4]; exact .inr ⟨h1, h2⟩)
        rw [hK4] at HN4
        have HRK := hide (show W4.heap[wr.heap.size]? = some (.cells #[.int .i64 d.op, .int .i64 d.six, .int .i64 d.stm, .slice d.psv d.nsv d.dsv, .slice d.psd d.nsd d.dsd, .int .i64 d.size, .int .i64 d.n, .int .i64 d.keep, .int .i64 d.tear] 44 (0, 0)) from ((hb3.trans (hb4.mono hb3.size)).block wr.heap.size (by have := HS2'.out; omega)).trans HR2.out)
        have HR4 := hide hr4
        have HSV4 := hide hsv4
        have HL4 := hide (And.intro (show Lies K4 (.slice pv3 nv3 cv3) kk.vo from (ownN_lies hvs3 fun i hi => hi).mono fun i hi => HKK.out i (by have := HS2'.out; omega) (by have := hz4.2.1; omega)) (show Lies K4 (.slice pd3 nd3 cd3) kk.da from (own_lies hds3 fun i hi => hi).mono fun i hi => HKK.out i (by have := HS2'.out; omega) (by have := hz4.2.1; omega)))
        have HZ4 := hide hz4
        have HF3 := hide (And.intro f30 f31)
        clear hvs3 hds3 hb3 hb4 hr4 hsv4 hz4 hbb hK4 f30 f31 HR2
        go_wp2_with fail
        clear hW4 s0 s1 s2 s3
        by_cases hck : kk.chk = 0
        · by_cases hix : S.ix < kk.ix
          obtain ⟨y, hy1, hy2, hy3, hy4, hy5, hy6, hy7, hy8, hy9⟩ := nw_save HN4.out.rest HN4.out.used HN4.out.acts HN4.out.room HN4.out.fine (by have := HS2.out.1; omega) hck hix HFR.out HDN.out
          have hkl := good_len (.inr hck)
          have HSV := hide (HN4.out.vlt.save HSV4.out HT1.out (by have := good_len HN4.out.good; exact this.2.2) HN4.out.fine (by have := HS2.out.1; omega) hkl.1 hkl.2.1 (by omega) (by omega))
          unfold VoR at HSV
          rw [hy1] at HSV
          dsimp only at HSV
          have HY := hide (And.intro hy2 (And.intro hy3 (And.intro hy4 (And.intro hy5 (And.intro hy6 hy7)))))
          have HCK := hide hck
          have hkp : 0 < kk.ix := by have := chk_ix hck; omega
          have HKP := hide hkp
          have HIX := hide hix
          clear hy1 hy2 hy3 hy4 hy5 hy6 hy7 hy8 hy9 hkl hck hkp hix
          refine HSV.out.mono ?_
          rintro e w7 ⟨rfl, hv7, hc7⟩
          have hsv7 : SnV w7 (.agg #[.int .i64 kk.ix, .int .i64 kk.tm, .slice pv3 nv3 cv3, .slice pd3 nd3 cd3]) kk := by
            obtain ⟨a, c, he, h1, h2, h3, h4⟩ := HSV4.out
            injection he with he
            injection he with he
            injection he with _ he
            injection he with _ he
            injection he with he1 he
            injection he with he2 he
            subst he1 he2
            exact ⟨_, _, rfl, h1.chg hc7 (HL4.out.1.mono fun i hi e => e.1 hi), h2.chg hc7 (HL4.out.2.mono fun i hi e => e.1 hi), h3, h4⟩
          have hr7 : w7.heap[w3.heap.size]? = some (.cells #[.int .i64 kk.ix, .int .i64 kk.tm, .slice pv3 nv3 cv3, .slice pd3 nd3 cd3] 42 (0, 0)) := (hc7.block _ HZ4.out.2.1 fun e => e.1 (HKK.out _ (by have := HS2'.out; have := HZ4.out; omega) HZ4.out.2.1)).trans HR4.out
          have hg7 : w7.heap[g6]? = some (.cells #[.int .i64 S.ix, .int .i64 S.tm, vo, da] 42 (0, 0)) := (hc7.block g6 (HN4.out.vlt.lt _ HN4.out.kg) fun e => e.1 HN4.out.kg).trans HN4.out.row
          have HRK7 := hide (show w7.heap[wr.heap.size]? = some (.cells #[.int .i64 d.op, .int .i64 d.six, .int .i64 d.stm, .slice d.psv d.nsv d.dsv, .slice d.psd d.nsd d.dsd, .int .i64 d.size, .int .i64 d.n, .int .i64 d.keep, .int .i64 d.tear] 44 (0, 0)) from (hc7.block _ HZ4.out.1 fun e => e.1 (HKK.out _ (Nat.le_refl _) HZ4.out.1)).trans HRK.out)
          have s0 : w7.cell? ⟨w3.heap.size, 0, none⟩ = some (.int .i64 kk.ix) := by rw [cell_of_row w7 _ 0 _ _ (0, 0) hr7]; rfl
          have s1 : w7.cell? ⟨w3.heap.size, 1, none⟩ = some (.int .i64 kk.tm) := by rw [cell_of_row w7 _ 1 _ _ (0, 0) hr7]; rfl
          have s2 : w7.cell? ⟨w3.heap.size, 2, none⟩ = some (.slice pv3 nv3 cv3) := by rw [cell_of_row w7 _ 2 _ _ (0, 0) hr7]; rfl
          have s3 : w7.cell? ⟨w3.heap.size, 3, none⟩ = some (.slice pd3 nd3 cd3) := by rw [cell_of_row w7 _ 3 _ _ (0, 0) hr7]; rfl
          have HCC := hide (vrcheck_any hsv7)
          unfold ChP at HCC
          rw [HCK.out] at HCC
          have HR7 := hide hr7
          have HG7 := hide hg7
          have HV7 := hide hv7
          have HSZ7 := hide (hc7.size)
          clear hv7 hc7 hsv7 hr7 hg7 HSV
          go_wp2_with fail
          refine HCC.out.mono ?_
          rintro e w8 ⟨rfl, hb8⟩
          have hr8 := (hb8.block _ ((Array.getElem?_eq_some_iff.1 HR7.out).1)).trans HR7.out
          have hg8 := (hb8.block _ ((Array.getElem?_eq_some_iff.1 HG7.out).1)).trans HG7.out
          have hrk8 := (hb8.block _ ((Array.getElem?_eq_some_iff.1 HRK7.out).1)).trans HRK7.out
          clear s0 s1 s2 s3
          have s0 : w8.cell? ⟨w3.heap.size, 0, none⟩ = some (.int .i64 kk.ix) := by rw [cell_of_row w8 _ 0 _ _ (0, 0) hr8]; rfl
          have c0 : w8.cell? ⟨g6, 0, none⟩ = some (.int .i64 S.ix) := by rw [cell_of_row w8 _ 0 _ _ (0, 0) hg8]; rfl
          have b0 : w8.cell? ⟨wr.heap.size, 0, none⟩ = some (.int .i64 d.op) := by rw [cell_of_row w8 _ 0 _ _ (0, 0) hrk8]; rfl
          have b1 : w8.cell? ⟨wr.heap.size, 1, none⟩ = some (.int .i64 d.six) := by rw [cell_of_row w8 _ 1 _ _ (0, 0) hrk8]; rfl
          have b2 : w8.cell? ⟨wr.heap.size, 2, none⟩ = some (.int .i64 d.stm) := by rw [cell_of_row w8 _ 2 _ _ (0, 0) hrk8]; rfl
          have b3 : w8.cell? ⟨wr.heap.size, 3, none⟩ = some (.slice d.psv d.nsv d.dsv) := by rw [cell_of_row w8 _ 3 _ _ (0, 0) hrk8]; rfl
          have b4 : w8.cell? ⟨wr.heap.size, 4, none⟩ = some (.slice d.psd d.nsd d.dsd) := by rw [cell_of_row w8 _ 4 _ _ (0, 0) hrk8]; rfl
          have b5 : w8.cell? ⟨wr.heap.size, 5, none⟩ = some (.int .i64 d.size) := by rw [cell_of_row w8 _ 5 _ _ (0, 0) hrk8]; rfl
          have b6 : w8.cell? ⟨wr.heap.size, 6, none⟩ = some (.int .i64 d.n) := by rw [cell_of_row w8 _ 6 _ _ (0, 0) hrk8]; rfl
          have b7 : w8.cell? ⟨wr.heap.size, 7, none⟩ = some (.int .i64 d.keep) := by rw [cell_of_row w8 _ 7 _ _ (0, 0) hrk8]; rfl
          have b8 : w8.cell? ⟨wr.heap.size, 8, none⟩ = some (.int .i64 d.tear) := by rw [cell_of_row w8 _ 8 _ _ (0, 0) hrk8]; rfl
          have HV8 := hide (HV7.out.new (Chg.of_below hb8 _) (N := fun i => w7.heap.size ≤ i ∧ i < w8.heap.size) fun i hi => hi)
          have HG8 := hide hg8
          have HB8 := hide hb8
          clear hr8 hg8 hrk8 hb8 HCC HR7 HG7 HV7
          have hix : S.ix < kk.ix := HIX.out
          have e00 : (((0 : Nat) : Int) == 0) = true := rfl
          cases sb
          · go_wp2_with fail
            have hb18 := HV8.out.below
            clear s0 c0 e00 hix
            refine (HSN.out w8 hb18).mono ?_
            rintro e w9 ⟨v9, rfl, ho9, hb9⟩
            obtain ⟨vs9, ds9, rfl, hvs9, hds9, f90, f91⟩ := ho9
            obtain ⟨pv9, nv9, cv9, rfl⟩ := hvs9.ns.sl
            obtain ⟨pd9, nd9, cd9, rfl⟩ := hds9.by_.sl
            have hg9 := (hb9.block _ ((Array.getElem?_eq_some_iff.1 HG8.out).1)).trans HG8.out
            obtain ⟨hset, hcs⟩ := set4 (.int .i64 kk.ix) (.int .i64 kk.tm) (.slice pv9 nv9 cv9) (.slice pd9 nd9 cd9) hg9
            obtain ⟨W10, hW10⟩ : ∃ W10, (((w9.setCell ⟨g6, 0, none⟩ (.int .i64 kk.ix)).setCell ⟨g6, 1, none⟩ (.int .i64 kk.tm)).setCell ⟨g6, 2, none⟩ (.slice pv9 nv9 cv9)).setCell ⟨g6, 3, none⟩ (.slice pd9 nd9 cd9) = W10 := ⟨_, rfl⟩
            rw [hW10] at hset hcs
            have hv9 := HV8.out.new (Chg.of_below hb9 _) (N := fun i => w8.heap.size ≤ i ∧ i < w9.heap.size) fun i hi => hi
            have hgl : g6 < w8.heap.size := (Array.getElem?_eq_some_iff.1 HG8.out).1
            have HNN := hide (NwS.next (B := w8.heap.size) (j := j + 1) hv9 (fun i hi => by
              have h1 := HV8.out.below.size
              rcases hi with (hi | hi) | hi
              · exact HN4.out.ge i hi
              · have h2 := HSZ7.out; have h3 := HN4.out.bound.size; omega
              · omega) (.inl (.inl HN4.out.kg)) hgl (fun i h1 h2 => .inr ⟨h1, h2⟩) hvs9 hds9 f90 f91 hcs hset
              ⟨HY.out.1, hv9.ok, HY.out.2.1, .inr HCK.out⟩ HY.out.2.2.2.1 HY.out.2.2.2.2.1 HY.out.2.2.1 HY.out.2.2.2.2.2)
            have g0 : w9.cell? ⟨g6, 0, none⟩ = some (.int .i64 S.ix) := by rw [cell_of_row w9 _ 0 _ _ (0, 0) hg9]; rfl
            have z0 := frozen_of_row w9 g6 0 _ 42 hg9
            have z1 := frozen_of_row w9 g6 1 _ 42 hg9
            have z2 := frozen_of_row w9 g6 2 _ 42 hg9
            have z3 := frozen_of_row w9 g6 3 _ 42 hg9
            have g1 : w9.cell? ⟨g6, 1, none⟩ = some (.int .i64 S.tm) := by rw [cell_of_row w9 _ 1 _ _ (0, 0) hg9]; rfl
            have g2 : w9.cell? ⟨g6, 2, none⟩ = some vo := by rw [cell_of_row w9 _ 2 _ _ (0, 0) hg9]; rfl
            have g3 : w9.cell? ⟨g6, 3, none⟩ = some da := by rw [cell_of_row w9 _ 3 _ _ (0, 0) hg9]; rfl
            have HW10 := hide hW10
            clear b0 b1 b2 b3 b4 b5 b6 b7 b8 hb18 hvs9 hds9 f90 f91 hg9 hset hcs hv9 hgl hb9 HV8 HG8 hW10
            go_wp2_with fail
            try rw [HW10.out]
            clear g0 g1 g2 g3 z0 z1 z2 z3 HW10
            have HPS := hide HKP.out
            obtain ⟨voA, daA, hvtA⟩ := HNN.out.vlt.vt
            refine (vlast_any hvtA HPS.out (by have := (good_len HNN.out.good).1; omega) (by have := (good_len HNN.out.good).2.1; omega)).mono ?_
            rintro e wL ⟨vL, rfl, hoL, hbL⟩
            obtain ⟨voL, daL, rfl, hoL1, hoL2, hoL3, hoL4⟩ := hoL
            obtain ⟨pvL, nvL, cvL, rfl⟩ := hoL1.ns.sl
            obtain ⟨pdL, ndL, cdL, rfl⟩ := hoL2.by_.sl
            obtain ⟨WB, hWB⟩ : ∃ WB, wL.alloc (.cells #[.int .i64 kk.ix, .int .i64 kk.tm, .slice pvL nvL cvL, .slice pdL ndL cdL] 42) = WB := ⟨_, rfl⟩
            have hbB : Below wL.heap.size wL WB := by rw [← hWB]; exact balloc (Below.refl _ _) _
            have hrB : WB.heap[wL.heap.size]? = some (.cells #[.int .i64 kk.ix, .int .i64 kk.tm, .slice pvL nvL cvL, .slice pdL ndL cdL] 42 (0, 0)) := by rw [← hWB]; exact Array.getElem?_push_size
            have n0 : WB.cell? ⟨wL.heap.size, 0, none⟩ = some (.int .i64 kk.ix) := by rw [cell_of_row WB _ 0 _ _ (0, 0) hrB]; rfl
            have n1 : WB.cell? ⟨wL.heap.size, 1, none⟩ = some (.int .i64 kk.tm) := by rw [cell_of_row WB _ 1 _ _ (0, 0) hrB]; rfl
            have n2 : WB.cell? ⟨wL.heap.size, 2, none⟩ = some (.slice pvL nvL cvL) := by rw [cell_of_row WB _ 2 _ _ (0, 0) hrB]; rfl
            have n3 : WB.cell? ⟨wL.heap.size, 3, none⟩ = some (.slice pdL ndL cdL) := by rw [cell_of_row WB _ 3 _ _ (0, 0) hrB]; rfl
            have hsnB : SnV WB (.agg #[.int .i64 kk.ix, .int .i64 kk.tm, .slice pvL nvL cvL, .slice pdL ndL cdL]) kk := ⟨_, _, rfl, hoL1.ns.below hbB, hoL2.by_.below hbB, hoL3, hoL4⟩
            have hbAB := hbL.trans (hbB.mono hbL.size)
            have HNB := hide (HNN.out.at hbAB)
            obtain ⟨c0, c1, c2, c3⟩ := HNB.out.cells
            have HSS := hide (same_any hsnB HNB.out.snv (by have := (good_len HNN.out.good).1; omega))
            clear hvtA hbL hbB hrB hsnB hbAB hoL1 hoL2 hoL3 hoL4
            go_wp2_with fail
            clear hWB n0 n1 n2 n3 c0 c1 c2 c3
            refine HSS.out.mono ?_
            rintro e wS ⟨rfl, hbS⟩
            rw [decide_eq_true (rfl : kk = kk)]
            have HNC := hide (HNB.out.at hbS)
            clear hbS HSS
            go_wp2_with fail
            go_roundw
            case rel => exact ⟨j + 1, by omega, by go_num, true, rfl, hide ⟨_, _, _, _, _, (decide_eq_true HPS.out).symm, HNC.out⟩⟩
            case measure => simp [intOf]; omega
          · go_wp2_with fail
            have hb18 := HV8.out.below
            clear s0 c0 e00 hix
            refine (HSN.out w8 hb18).mono ?_
            rintro e w9 ⟨v9, rfl, ho9, hb9⟩
            obtain ⟨vs9, ds9, rfl, hvs9, hds9, f90, f91⟩ := ho9
            obtain ⟨pv9, nv9, cv9, rfl⟩ := hvs9.ns.sl
            obtain ⟨pd9, nd9, cd9, rfl⟩ := hds9.by_.sl
            have hg9 := (hb9.block _ ((Array.getElem?_eq_some_iff.1 HG8.out).1)).trans HG8.out
            obtain ⟨hset, hcs⟩ := set4 (.int .i64 kk.ix) (.int .i64 kk.tm) (.slice pv9 nv9 cv9) (.slice pd9 nd9 cd9) hg9
            obtain ⟨W10, hW10⟩ : ∃ W10, (((w9.setCell ⟨g6, 0, none⟩ (.int .i64 kk.ix)).setCell ⟨g6, 1, none⟩ (.int .i64 kk.tm)).setCell ⟨g6, 2, none⟩ (.slice pv9 nv9 cv9)).setCell ⟨g6, 3, none⟩ (.slice pd9 nd9 cd9) = W10 := ⟨_, rfl⟩
            rw [hW10] at hset hcs
            have hv9 := HV8.out.new (Chg.of_below hb9 _) (N := fun i => w8.heap.size ≤ i ∧ i < w9.heap.size) fun i hi => hi
            have hgl : g6 < w8.heap.size := (Array.getElem?_eq_some_iff.1 HG8.out).1
            have HNN := hide (NwS.next (B := w8.heap.size) (j := j + 1) hv9 (fun i hi => by
              have h1 := HV8.out.below.size
              rcases hi with (hi | hi) | hi
              · exact HN4.out.ge i hi
              · have h2 := HSZ7.out; have h3 := HN4.out.bound.size; omega
              · omega) (.inl (.inl HN4.out.kg)) hgl (fun i h1 h2 => .inr ⟨h1, h2⟩) hvs9 hds9 f90 f91 hcs hset
              ⟨HY.out.1, hv9.ok, HY.out.2.1, .inr HCK.out⟩ HY.out.2.2.2.1 HY.out.2.2.2.2.1 HY.out.2.2.1 HY.out.2.2.2.2.2)
            have g0 : w9.cell? ⟨g6, 0, none⟩ = some (.int .i64 S.ix) := by rw [cell_of_row w9 _ 0 _ _ (0, 0) hg9]; rfl
            have z0 := frozen_of_row w9 g6 0 _ 42 hg9
            have z1 := frozen_of_row w9 g6 1 _ 42 hg9
            have z2 := frozen_of_row w9 g6 2 _ 42 hg9
            have z3 := frozen_of_row w9 g6 3 _ 42 hg9
            have g1 : w9.cell? ⟨g6, 1, none⟩ = some (.int .i64 S.tm) := by rw [cell_of_row w9 _ 1 _ _ (0, 0) hg9]; rfl
            have g2 : w9.cell? ⟨g6, 2, none⟩ = some vo := by rw [cell_of_row w9 _ 2 _ _ (0, 0) hg9]; rfl
            have g3 : w9.cell? ⟨g6, 3, none⟩ = some da := by rw [cell_of_row w9 _ 3 _ _ (0, 0) hg9]; rfl
            have HW10 := hide hW10
            clear b0 b1 b2 b3 b4 b5 b6 b7 b8 hb18 hvs9 hds9 f90 f91 hg9 hset hcs hv9 hgl hb9 HV8 HG8 hW10
            go_wp2_with fail
            try rw [HW10.out]
            clear g0 g1 g2 g3 z0 z1 z2 z3 HW10
            have HPS := hide HKP.out
            obtain ⟨voA, daA, hvtA⟩ := HNN.out.vlt.vt
            refine (vlast_any hvtA HPS.out (by have := (good_len HNN.out.good).1; omega) (by have := (good_len HNN.out.good).2.1; omega)).mono ?_
            rintro e wL ⟨vL, rfl, hoL, hbL⟩
            obtain ⟨voL, daL, rfl, hoL1, hoL2, hoL3, hoL4⟩ := hoL
            obtain ⟨pvL, nvL, cvL, rfl⟩ := hoL1.ns.sl
            obtain ⟨pdL, ndL, cdL, rfl⟩ := hoL2.by_.sl
            obtain ⟨WB, hWB⟩ : ∃ WB, wL.alloc (.cells #[.int .i64 kk.ix, .int .i64 kk.tm, .slice pvL nvL cvL, .slice pdL ndL cdL] 42) = WB := ⟨_, rfl⟩
            have hbB : Below wL.heap.size wL WB := by rw [← hWB]; exact balloc (Below.refl _ _) _
            have hrB : WB.heap[wL.heap.size]? = some (.cells #[.int .i64 kk.ix, .int .i64 kk.tm, .slice pvL nvL cvL, .slice pdL ndL cdL] 42 (0, 0)) := by rw [← hWB]; exact Array.getElem?_push_size
            have n0 : WB.cell? ⟨wL.heap.size, 0, none⟩ = some (.int .i64 kk.ix) := by rw [cell_of_row WB _ 0 _ _ (0, 0) hrB]; rfl
            have n1 : WB.cell? ⟨wL.heap.size, 1, none⟩ = some (.int .i64 kk.tm) := by rw [cell_of_row WB _ 1 _ _ (0, 0) hrB]; rfl
            have n2 : WB.cell? ⟨wL.heap.size, 2, none⟩ = some (.slice pvL nvL cvL) := by rw [cell_of_row WB _ 2 _ _ (0, 0) hrB]; rfl
            have n3 : WB.cell? ⟨wL.heap.size, 3, none⟩ = some (.slice pdL ndL cdL) := by rw [cell_of_row WB _ 3 _ _ (0, 0) hrB]; rfl
            have hsnB : SnV WB (.agg #[.int .i64 kk.ix, .int .i64 kk.tm, .slice pvL nvL cvL, .slice pdL ndL cdL]) kk := ⟨_, _, rfl, hoL1.ns.below hbB, hoL2.by_.below hbB, hoL3, hoL4⟩
            have hbAB := hbL.trans (hbB.mono hbL.size)
            have HNB := hide (HNN.out.at hbAB)
            obtain ⟨c0, c1, c2, c3⟩ := HNB.out.cells
            have HSS := hide (same_any hsnB HNB.out.snv (by have := (good_len HNN.out.good).1; omega))
            clear hvtA hbL hbB hrB hsnB hbAB hoL1 hoL2 hoL3 hoL4
            go_wp2_with fail
            clear hWB n0 n1 n2 n3 c0 c1 c2 c3
            refine HSS.out.mono ?_
            rintro e wS ⟨rfl, hbS⟩
            rw [decide_eq_true (rfl : kk = kk)]
            have HNC := hide (HNB.out.at hbS)
            clear hbS HSS
            go_wp2_with fail
            go_roundw
            case rel => exact ⟨j + 1, by omega, by go_num, true, rfl, hide ⟨_, _, _, _, _, (decide_eq_true HPS.out).symm, HNC.out⟩⟩
            case measure => simp [intOf]; omega
          · have hix0 := chk_ix hck
            have hkl := good_len (.inr hck)
            have h3 := file_len (s := kk) (by omega) HFR.out (by have := HF3.out.1; unfold Go.Proofs.YtgbdjcekpdfpjaaGreatDoor.fits at this; omega) (by have := HF3.out.2; unfold Go.Proofs.YtgbdjcekpdfpjaaGreatDoor.fits at this; omega) (by omega)
            have h4 := chk_ok hck
            have hdn := HDN.out
            have HSV := hide (HN4.out.vlt.save HSV4.out HT1.out (by have := good_len HN4.out.good; exact this.2.2) HN4.out.fine (by have := HS2.out.1; omega) hkl.1 hkl.2.1 (by omega) (by omega))
            unfold VoR at HSV
            rw [save_old hck (by omega)] at HSV
            dsimp only at HSV
            have hs0 : 0 < S.ix := by omega
            have hxo : ¬ S.ix < kk.ix := by omega
            have e51 : (((51 : Nat) : Int) == 0) = false := rfl
            clear hkl h3 h4 hdn
            refine HSV.out.mono ?_
            rintro e w7 ⟨rfl, hv7, hc7⟩
            have hsv7 : SnV w7 (.agg #[.int .i64 kk.ix, .int .i64 kk.tm, .slice pv3 nv3 cv3, .slice pd3 nd3 cd3]) kk := by
              obtain ⟨a, c, he, h1, h2, h3, h4⟩ := HSV4.out
              injection he with he
              injection he with he
              injection he with _ he
              injection he with _ he
              injection he with he1 he
              injection he with he2 he
              subst he1 he2
              exact ⟨_, _, rfl, h1.chg hc7 (HL4.out.1.mono fun i hi e => e.1 hi), h2.chg hc7 (HL4.out.2.mono fun i hi e => e.1 hi), h3, h4⟩
            have hr7 : w7.heap[w3.heap.size]? = some (.cells #[.int .i64 kk.ix, .int .i64 kk.tm, .slice pv3 nv3 cv3, .slice pd3 nd3 cd3] 42 (0, 0)) := (hc7.block _ HZ4.out.2.1 fun e => e.1 (HKK.out _ (by have := HS2'.out; have := HZ4.out; omega) HZ4.out.2.1)).trans HR4.out
            have HN7 := hide (HN4.out.kept hv7 hc7)
            have s0 : w7.cell? ⟨w3.heap.size, 0, none⟩ = some (.int .i64 kk.ix) := by rw [cell_of_row w7 _ 0 _ _ (0, 0) hr7]; rfl
            have s1 : w7.cell? ⟨w3.heap.size, 1, none⟩ = some (.int .i64 kk.tm) := by rw [cell_of_row w7 _ 1 _ _ (0, 0) hr7]; rfl
            have s2 : w7.cell? ⟨w3.heap.size, 2, none⟩ = some (.slice pv3 nv3 cv3) := by rw [cell_of_row w7 _ 2 _ _ (0, 0) hr7]; rfl
            have s3 : w7.cell? ⟨w3.heap.size, 3, none⟩ = some (.slice pd3 nd3 cd3) := by rw [cell_of_row w7 _ 3 _ _ (0, 0) hr7]; rfl
            have HCC := hide (vrcheck_any hsv7)
            unfold ChP at HCC
            rw [hck] at HCC
            have HR7 := hide hr7
            clear hv7 hc7 hsv7 hr7 HSV
            go_wp2_with fail
            refine HCC.out.mono ?_
            rintro e w8 ⟨rfl, hb8⟩
            have hr8 := (hb8.block _ ((Array.getElem?_eq_some_iff.1 HR7.out).1)).trans HR7.out
            have HN8 := hide (HN7.out.at hb8)
            obtain ⟨c0, c1, c2, c3⟩ := HN8.out.cells
            clear s0 s1 s2 s3
            have s0 : w8.cell? ⟨w3.heap.size, 0, none⟩ = some (.int .i64 kk.ix) := by rw [cell_of_row w8 _ 0 _ _ (0, 0) hr8]; rfl
            clear hr8 hb8 HCC HR7 HN7
            obtain ⟨⟨q1, q2, q3, rfl⟩, q4, q5, q6, rfl⟩ := HN8.out.sl
            obtain rfl : sb = true := HSB.out.trans (decide_eq_true hs0)
            have HPS := hide hs0
            have e00 : (((0 : Nat) : Int) == 0) = true := rfl
            clear hs0 hck hix
            go_wp2_with fail
            clear s0 c0 c1 c2 c3 hxo e51 e00
            obtain ⟨voA, daA, hvtA⟩ := HN8.out.vlt.vt
            refine (vlast_any hvtA HPS.out (by have := (good_len HN8.out.good).1; omega) (by have := (good_len HN8.out.good).2.1; omega)).mono ?_
            rintro e wL ⟨vL, rfl, hoL, hbL⟩
            obtain ⟨voL, daL, rfl, hoL1, hoL2, hoL3, hoL4⟩ := hoL
            obtain ⟨pvL, nvL, cvL, rfl⟩ := hoL1.ns.sl
            obtain ⟨pdL, ndL, cdL, rfl⟩ := hoL2.by_.sl
            obtain ⟨WB, hWB⟩ : ∃ WB, wL.alloc (.cells #[.int .i64 S.ix, .int .i64 S.tm, .slice pvL nvL cvL, .slice pdL ndL cdL] 42) = WB := ⟨_, rfl⟩
            have hbB : Below wL.heap.size wL WB := by rw [← hWB]; exact balloc (Below.refl _ _) _
            have hrB : WB.heap[wL.heap.size]? = some (.cells #[.int .i64 S.ix, .int .i64 S.tm, .slice pvL nvL cvL, .slice pdL ndL cdL] 42 (0, 0)) := by rw [← hWB]; exact Array.getElem?_push_size
            have n0 : WB.cell? ⟨wL.heap.size, 0, none⟩ = some (.int .i64 S.ix) := by rw [cell_of_row WB _ 0 _ _ (0, 0) hrB]; rfl
            have n1 : WB.cell? ⟨wL.heap.size, 1, none⟩ = some (.int .i64 S.tm) := by rw [cell_of_row WB _ 1 _ _ (0, 0) hrB]; rfl
            have n2 : WB.cell? ⟨wL.heap.size, 2, none⟩ = some (.slice pvL nvL cvL) := by rw [cell_of_row WB _ 2 _ _ (0, 0) hrB]; rfl
            have n3 : WB.cell? ⟨wL.heap.size, 3, none⟩ = some (.slice pdL ndL cdL) := by rw [cell_of_row WB _ 3 _ _ (0, 0) hrB]; rfl
            have hsnB : SnV WB (.agg #[.int .i64 S.ix, .int .i64 S.tm, .slice pvL nvL cvL, .slice pdL ndL cdL]) S := ⟨_, _, rfl, hoL1.ns.below hbB, hoL2.by_.below hbB, hoL3, hoL4⟩
            have hbAB := hbL.trans (hbB.mono hbL.size)
            have HNB := hide (HN8.out.at hbAB).up
            obtain ⟨c0, c1, c2, c3⟩ := HNB.out.cells
            have HSS := hide (same_any hsnB HNB.out.snv (by have := (good_len HN8.out.good).1; omega))
            clear hvtA hbL hbB hrB hsnB hbAB hoL1 hoL2 hoL3 hoL4
            go_wp2_with fail
            clear hWB n0 n1 n2 n3 c0 c1 c2 c3
            refine HSS.out.mono ?_
            rintro e wS ⟨rfl, hbS⟩
            rw [decide_eq_true (rfl : S = S)]
            have HNC := hide (HNB.out.at hbS)
            clear hbS HSS
            go_wp2_with fail
            go_roundw
            case rel => exact ⟨j + 1, by omega, by go_num, true, rfl, hide ⟨_, _, _, _, _, (decide_eq_true HPS.out).symm, HNC.out⟩⟩
            case measure => simp [intOf]; omega
        · skip
          obtain ⟨voA, daA, hvtA⟩ := HN4.out.vlt.vt
          obtain ⟨ck, hckk⟩ : ∃ ck : Nat, kk.chk = ck := ⟨_, rfl⟩
          have HSV : Hid (Calls Tryz.prog 22 #[.pointer (some ⟨b, 0, none⟩), .agg #[.int .i64 kk.ix, .int .i64 kk.tm, .slice pv3 nv3 cv3, .slice pd3 nd3 cd3]] W4 fun e w' => e = .returned (.int .i64 (ck : Nat)) ∧ Vo w1 w' K4 b dd S st ∧ Chg W4 w' (fun i => ¬ K4 i ∧ w1.heap.size ≤ i)) := hide ((vsave_bad hvtA HSV4.out hck).mono fun e w' hp => ⟨hckk ▸ hp.1, HN4.out.vlt.at (Chg.of_below hp.2 _), Chg.of_below hp.2 _⟩)
          have hcn : ¬ (ck : Int) = 0 := by omega
          clear hvtA
          refine HSV.out.mono ?_
          rintro e w7 ⟨rfl, hv7, hc7⟩
          have hsv7 : SnV w7 (.agg #[.int .i64 kk.ix, .int .i64 kk.tm, .slice pv3 nv3 cv3, .slice pd3 nd3 cd3]) kk := by
            obtain ⟨a, c, he, h1, h2, h3, h4⟩ := HSV4.out
            injection he with he
            injection he with he
            injection he with _ he
            injection he with _ he
            injection he with he1 he
            injection he with he2 he
            subst he1 he2
            exact ⟨_, _, rfl, h1.chg hc7 (HL4.out.1.mono fun i hi e => e.1 hi), h2.chg hc7 (HL4.out.2.mono fun i hi e => e.1 hi), h3, h4⟩
          have hr7 : w7.heap[w3.heap.size]? = some (.cells #[.int .i64 kk.ix, .int .i64 kk.tm, .slice pv3 nv3 cv3, .slice pd3 nd3 cd3] 42 (0, 0)) := (hc7.block _ HZ4.out.2.1 fun e => e.1 (HKK.out _ (by have := HS2'.out; have := HZ4.out; omega) HZ4.out.2.1)).trans HR4.out
          have HN7 := hide (HN4.out.kept hv7 hc7)
          have s0 : w7.cell? ⟨w3.heap.size, 0, none⟩ = some (.int .i64 kk.ix) := by rw [cell_of_row w7 _ 0 _ _ (0, 0) hr7]; rfl
          have s1 : w7.cell? ⟨w3.heap.size, 1, none⟩ = some (.int .i64 kk.tm) := by rw [cell_of_row w7 _ 1 _ _ (0, 0) hr7]; rfl
          have s2 : w7.cell? ⟨w3.heap.size, 2, none⟩ = some (.slice pv3 nv3 cv3) := by rw [cell_of_row w7 _ 2 _ _ (0, 0) hr7]; rfl
          have s3 : w7.cell? ⟨w3.heap.size, 3, none⟩ = some (.slice pd3 nd3 cd3) := by rw [cell_of_row w7 _ 3 _ _ (0, 0) hr7]; rfl
          have HCC := hide (vrcheck_any hsv7)
          unfold ChP at HCC
          rw [hckk] at HCC
          have HR7 := hide hr7
          clear hv7 hc7 hsv7 hr7 HSV
          go_wp2_with fail
          refine HCC.out.mono ?_
          rintro e w8 ⟨rfl, hb8⟩
          have hr8 := (hb8.block _ ((Array.getElem?_eq_some_iff.1 HR7.out).1)).trans HR7.out
          have HN8 := hide (HN7.out.at hb8)
          obtain ⟨c0, c1, c2, c3⟩ := HN8.out.cells
          clear s0 s1 s2 s3
          have s0 : w8.cell? ⟨w3.heap.size, 0, none⟩ = some (.int .i64 kk.ix) := by rw [cell_of_row w8 _ 0 _ _ (0, 0) hr8]; rfl
          clear hr8 hb8 HCC HR7 HN7
          obtain ⟨⟨q1, q2, q3, rfl⟩, q4, q5, q6, rfl⟩ := HN8.out.sl
          have HPS0 := HSB.out
          by_cases h0 : 0 < S.ix
          · obtain rfl : sb = true := HSB.out.trans (decide_eq_true h0)
            have HPS := hide h0
            clear h0 HPS0 hckk hck
            go_wp2_with fail
            clear s0 c0 c1 c2 c3 hcn
            obtain ⟨voA, daA, hvtA⟩ := HN8.out.vlt.vt
            refine (vlast_any hvtA HPS.out (by have := (good_len HN8.out.good).1; omega) (by have := (good_len HN8.out.good).2.1; omega)).mono ?_
            rintro e wL ⟨vL, rfl, hoL, hbL⟩
            obtain ⟨voL, daL, rfl, hoL1, hoL2, hoL3, hoL4⟩ := hoL
            obtain ⟨pvL, nvL, cvL, rfl⟩ := hoL1.ns.sl
            obtain ⟨pdL, ndL, cdL, rfl⟩ := hoL2.by_.sl
            obtain ⟨WB, hWB⟩ : ∃ WB, wL.alloc (.cells #[.int .i64 S.ix, .int .i64 S.tm, .slice pvL nvL cvL, .slice pdL ndL cdL] 42) = WB := ⟨_, rfl⟩
            have hbB : Below wL.heap.size wL WB := by rw [← hWB]; exact balloc (Below.refl _ _) _
            have hrB : WB.heap[wL.heap.size]? = some (.cells #[.int .i64 S.ix, .int .i64 S.tm, .slice pvL nvL cvL, .slice pdL ndL cdL] 42 (0, 0)) := by rw [← hWB]; exact Array.getElem?_push_size
            have n0 : WB.cell? ⟨wL.heap.size, 0, none⟩ = some (.int .i64 S.ix) := by rw [cell_of_row WB _ 0 _ _ (0, 0) hrB]; rfl
            have n1 : WB.cell? ⟨wL.heap.size, 1, none⟩ = some (.int .i64 S.tm) := by rw [cell_of_row WB _ 1 _ _ (0, 0) hrB]; rfl
            have n2 : WB.cell? ⟨wL.heap.size, 2, none⟩ = some (.slice pvL nvL cvL) := by rw [cell_of_row WB _ 2 _ _ (0, 0) hrB]; rfl
            have n3 : WB.cell? ⟨wL.heap.size, 3, none⟩ = some (.slice pdL ndL cdL) := by rw [cell_of_row WB _ 3 _ _ (0, 0) hrB]; rfl
            have hsnB : SnV WB (.agg #[.int .i64 S.ix, .int .i64 S.tm, .slice pvL nvL cvL, .slice pdL ndL cdL]) S := ⟨_, _, rfl, hoL1.ns.below hbB, hoL2.by_.below hbB, hoL3, hoL4⟩
            have hbAB := hbL.trans (hbB.mono hbL.size)
            have HNB := hide (HN8.out.at hbAB).up
            obtain ⟨c0, c1, c2, c3⟩ := HNB.out.cells
            have HSS := hide (same_any hsnB HNB.out.snv (by have := (good_len HN8.out.good).1; omega))
            clear hvtA hbL hbB hrB hsnB hbAB hoL1 hoL2 hoL3 hoL4
            go_wp2_with fail
            clear hWB n0 n1 n2 n3 c0 c1 c2 c3
            refine HSS.out.mono ?_
            rintro e wS ⟨rfl, hbS⟩
            rw [decide_eq_true (rfl : S = S)]
            have HNC := hide (HNB.out.at hbS)
            clear hbS HSS
            go_wp2_with fail
            go_roundw
            case rel => exact ⟨j + 1, by omega, by go_num, true, rfl, hide ⟨_, _, _, _, _, (decide_eq_true HPS.out).symm, HNC.out⟩⟩
            case measure => simp [intOf]; omega
          · obtain rfl : sb = false := HSB.out.trans (decide_eq_false h0)
            have HPS := hide (show ¬ 0 < S.ix by omega)
            clear h0 HPS0 hckk hck
            go_wp2_with fail
            clear s0 c0 c1 c2 c3 hcn
            obtain ⟨voA, daA, hvtA⟩ := HN8.out.vlt.vt
            refine (vlast_none hvtA (by have := HPS.out; omega)).mono ?_
            rintro e wL ⟨rfl, hbL⟩
            obtain ⟨WB, hWB⟩ : ∃ WB, wL.alloc (.cells #[.int .i64 0, .int .i64 0, .slice none 0 0, .slice none 0 0] 42) = WB := ⟨_, rfl⟩
            have hbB : Below wL.heap.size wL WB := by rw [← hWB]; exact balloc (Below.refl _ _) _
            have hrB : WB.heap[wL.heap.size]? = some (.cells #[.int .i64 0, .int .i64 0, .slice none 0 0, .slice none 0 0] 42 (0, 0)) := by rw [← hWB]; exact Array.getElem?_push_size
            have n0 : WB.cell? ⟨wL.heap.size, 0, none⟩ = some (.int .i64 0) := by rw [cell_of_row WB _ 0 _ _ (0, 0) hrB]; rfl
            have n1 : WB.cell? ⟨wL.heap.size, 1, none⟩ = some (.int .i64 0) := by rw [cell_of_row WB _ 1 _ _ (0, 0) hrB]; rfl
            have n2 : WB.cell? ⟨wL.heap.size, 2, none⟩ = some (.slice none 0 0) := by rw [cell_of_row WB _ 2 _ _ (0, 0) hrB]; rfl
            have n3 : WB.cell? ⟨wL.heap.size, 3, none⟩ = some (.slice none 0 0) := by rw [cell_of_row WB _ 3 _ _ (0, 0) hrB]; rfl
            have hsnB : SnV WB (.agg #[.int .i64 0, .int .i64 0, .slice none 0 0, .slice none 0 0]) sn0 := ⟨_, _, rfl, Ns.nil _, By.nil _, by show Go.Proofs.YtgbdjcekpdfpjaaGreatDoor.fits 0; unfold Go.Proofs.YtgbdjcekpdfpjaaGreatDoor.fits; omega, by show Go.Proofs.YtgbdjcekpdfpjaaGreatDoor.fits 0; unfold Go.Proofs.YtgbdjcekpdfpjaaGreatDoor.fits; omega⟩
            have hbAB := hbL.trans (hbB.mono hbL.size)
            have HNB := hide (HN8.out.at hbAB).up
            obtain ⟨c0, c1, c2, c3⟩ := HNB.out.cells
            have HSS := hide (same_any hsnB HNB.out.snv (by decide))
            clear hvtA hbL hbB hrB hsnB hbAB
            rw [← hWB] at c0 c1 c2 c3 HSS
            have HWB := hide hWB
            clear hWB n0 n1 n2 n3
            go_wp2_with fail
            clear c0 c1 c2 c3
            refine HSS.out.mono ?_
            rintro e wS ⟨rfl, hbS⟩
            rw [HWB.out] at hbS
            rw [decide_eq_true (HN8.out.zero (by have := HPS.out; omega))]
            have HNC := hide (HNB.out.at hbS)
            clear hbS HSS
            go_wp2_with fail
            go_roundw
            case rel => exact ⟨j + 1, by omega, by go_num, false, rfl, hide ⟨_, _, _, _, _, (decide_eq_false (by have := HPS.out; omega)).symm, HNC.out⟩⟩
            case measure => simp [intOf]; omega
      · have HBE := hide (HB1.out.trans (HN.out.bound.mono HB1.out.size))
        go_wp2_with (go_at_call 12; refine (HAW.out _ HBE.out).mono ?_; rintro e wz ⟨rfl, hbz⟩)
        go_ret
        exact ⟨rfl, HBE.out.trans (hbz.mono HBE.out.size)⟩
end Go.Proofs.YtgbdjcekpdfpjaaGreatDoor
