/- VaultTakes: the law. -/
import Derived.Test.YtgbdjcekpdfpjaaGreatDoorVAwake
import Derived.Test.YtgbdjcekpdfpjaaGreatDoorVk
namespace Go.Proofs.YtgbdjcekpdfpjaaGreatDoor
set_option linter.unusedVariables false
set_option linter.unusedSimpArgs false
open Go.RowKit

/-- The two intakes, in memory made behind w0. -/
structure Tks (w0 w : World) (g h : Nat) (v v' : Value) (x : It) : Prop where
  bel : Below w0.heap.size w0 w
  a : Itk w g 70 v x
  b : Itk w h 82 v' x
  gh : g ≠ h
  g0 : w0.heap.size ≤ g
  h0 : w0.heap.size ≤ h
  ah : ∀ k, v.ownBlock = some k → w0.heap.size ≤ k ∧ k ≠ h ∧ v'.ownBlock ≠ some k
  bg : ∀ k, v'.ownBlock = some k → w0.heap.size ≤ k ∧ k ≠ g
theorem Tks.gl {w0 w : World} {g h : Nat} {v v' : Value} {x : It} (H : Tks w0 w g h v v' x) : g < w.heap.size ∧ h < w.heap.size :=
  ⟨(Array.getElem?_eq_some_iff.1 H.a.row).1, (Array.getElem?_eq_some_iff.1 H.b.row).1⟩
/-- Nothing of theirs is changed. -/
theorem Tks.at {w0 w w' : World} {g h : Nat} {v v' : Value} {x : It} (H : Tks w0 w g h v v' x) {T : Nat → Prop} (hc : Chg w w' T) (hT : ∀ k, T k → w.heap.size ≤ k) : Tks w0 w' g h v v' x :=
  ⟨Chg.to_below H.bel hc fun k hk => Nat.le_trans H.bel.size (hT k hk), H.a.chg hc (fun h => by have := hT _ h; have := H.gl; omega) (fun k hk h => by have := hT _ h; have := H.a.lt k hk; omega),
    H.b.chg hc (fun h => by have := hT _ h; have := H.gl; omega) (fun k hk h => by have := hT _ h; have := H.b.lt k hk; omega), H.gh, H.g0, H.h0, H.ah, H.bg⟩
/-- The round's two calls: what they leave. -/
structure TkR (w0 wr w4 w5 w6 : World) (g h : Nat) (v1 v1' y z : Value) (r : It × List UInt8 × Bool × Nat) : Prop where
  t : Tks w0 w6 g h v1 v1' r.1
  oy : Own 0 w6 y r.2.1
  oz : Own 0 w6 z r.2.1
  yl : ∀ k, y.ownBlock = some k → (k < wr.heap.size ∨ w4.heap.size ≤ k) ∧ w0.heap.size ≤ k
  zl : ∀ k, z.ownBlock = some k → (k < wr.heap.size ∨ w4.heap.size ≤ k) ∧ w0.heap.size ≤ k
  al : ∀ k, v1.ownBlock = some k → k < wr.heap.size ∨ w4.heap.size ≤ k
  bl : ∀ k, v1'.ownBlock = some k → k < wr.heap.size ∨ w4.heap.size ≤ k
  cg : Chg w4 w6 (fun k => w0.heap.size ≤ k ∧ k < wr.heap.size)
theorem tks_first {w0 wr w4 w5 : World} {g h : Nat} {v v' : Value} {x : It} (H : Tks w0 wr g h v v' x) (h4 : Chg wr w4 (fun _ => False)) {r : It × List UInt8 × Bool × Nat} {e : Ending} (h5 : TkP w4 g 70 v r e w5) :
    Itk w5 h 82 v' x ∧ Chg w4 w5 (fun k => w0.heap.size ≤ k ∧ k < wr.heap.size) := by
  obtain ⟨v1, y, rfl, k1, k2, k3, k4, k5⟩ := h5
  have hgl := H.gl
  have H4 := H.at h4 fun k hk => hk.elim
  refine ⟨H4.b.chg k3 ?_ ?_, k3.mono' ?_⟩
  · rintro (e | e)
    · exact H.gh e.symm
    · exact (H.ah h e).2.1 rfl
  · rintro k hk (e | e)
    · exact (H.bg k hk).2 e
    · exact (H.ah k e).2.2 hk
  · rintro k (e | e)
    · subst e; exact ⟨H.g0, hgl.1⟩
    · exact ⟨(H.ah k e).1, H.a.lt k e⟩
theorem tks_second {w0 wr w4 w5 w6 : World} {g h : Nat} {v v' : Value} {x : It} (H : Tks w0 wr g h v v' x) (h4 : Chg wr w4 (fun _ => False)) {r : It × List UInt8 × Bool × Nat} {v1 y v1' z : Value}
    (k1 : Itk w5 g 70 v1 r.1) (k2 : Own 0 w5 y r.2.1) (k3 : Chg w4 w5 (fun k => k = g ∨ v.ownBlock = some k))
    (k4 : ∀ k, v1.ownBlock = some k → v.ownBlock = some k ∨ w4.heap.size ≤ k) (k5 : ∀ k, y.ownBlock = some k → (v.ownBlock = some k ∨ w4.heap.size ≤ k) ∧ k < w5.heap.size ∧ v1 = .slice none 0 0)
    (j1 : Itk w6 h 82 v1' r.1) (j2 : Own 0 w6 z r.2.1) (j3 : Chg w5 w6 (fun k => k = h ∨ v'.ownBlock = some k))
    (j4 : ∀ k, v1'.ownBlock = some k → v'.ownBlock = some k ∨ w5.heap.size ≤ k) (j5 : ∀ k, z.ownBlock = some k → (v'.ownBlock = some k ∨ w5.heap.size ≤ k) ∧ k < w6.heap.size ∧ v1' = .slice none 0 0) :
    TkR w0 wr w4 w5 w6 g h v1 v1' y z r := by
  have hgl := H.gl
  have H4 := H.at h4 fun k hk => hk.elim
  have s0 := H.bel.size
  have s4 := h4.size
  have s5 := k3.size
  have s6 := j3.size
  have cA : Chg w4 w5 (fun k => w0.heap.size ≤ k ∧ k < wr.heap.size) := k3.mono' fun k hk => by
    rcases hk with e | e
    · subst e; exact ⟨H.g0, hgl.1⟩
    · exact ⟨(H.ah k e).1, H.a.lt k e⟩
  have cB : Chg w5 w6 (fun k => w0.heap.size ≤ k ∧ k < wr.heap.size) := j3.mono' fun k hk => by
    rcases hk with e | e
    · subst e; exact ⟨H.h0, hgl.2⟩
    · exact ⟨(H.bg k e).1, H.b.lt k e⟩
  have a1 : ∀ k, v1.ownBlock = some k → (k < wr.heap.size ∨ w4.heap.size ≤ k) ∧ w0.heap.size ≤ k ∧ k ≠ h ∧ v'.ownBlock ≠ some k := fun k hk => by
    rcases k4 k hk with e | e
    · exact ⟨.inl (H.a.lt k e), H.ah k e⟩
    · exact ⟨.inr e, by omega, by omega, fun e2 => by have := H.b.lt k e2; omega⟩
  have y1 : ∀ k, y.ownBlock = some k → (k < wr.heap.size ∨ w4.heap.size ≤ k) ∧ w0.heap.size ≤ k ∧ k ≠ h ∧ v'.ownBlock ≠ some k := fun k hk => by
    rcases (k5 k hk).1 with e | e
    · exact ⟨.inl (H.a.lt k e), H.ah k e⟩
    · exact ⟨.inr e, by omega, by omega, fun e2 => by have := H.b.lt k e2; omega⟩
  have b1 : ∀ k, v1'.ownBlock = some k → (k < wr.heap.size ∨ w5.heap.size ≤ k) ∧ w0.heap.size ≤ k ∧ k ≠ g ∧ v1.ownBlock ≠ some k := fun k hk => by
    rcases j4 k hk with e | e
    · exact ⟨.inl (H.b.lt k e), (H.bg k e).1, (H.bg k e).2, fun e2 => (a1 k e2).2.2.2 e⟩
    · exact ⟨.inr e, by omega, by omega, fun e2 => by have := k1.lt k e2; omega⟩
  have z1 : ∀ k, z.ownBlock = some k → (k < wr.heap.size ∨ w4.heap.size ≤ k) ∧ w0.heap.size ≤ k := fun k hk => by
    rcases (j5 k hk).1 with e | e
    · exact ⟨.inl (H.b.lt k e), (H.bg k e).1⟩
    · exact ⟨.inr (by omega), by omega⟩
  refine ⟨⟨Chg.to_below (Chg.to_below H4.bel cA fun k hk => hk.1) cB fun k hk => hk.1, k1.chg j3 ?_ ?_, j1, H.gh, H.g0, H.h0, fun k hk => ⟨(a1 k hk).2.1, (a1 k hk).2.2.1, fun e => (b1 k e).2.2.2 hk⟩, fun k hk => ⟨(b1 k hk).2.1, (b1 k hk).2.2.1⟩⟩, vown_chg k2 j3 ?_, j2, fun k hk => ⟨(y1 k hk).1, (y1 k hk).2.1⟩, z1, fun k hk => (a1 k hk).1, fun k hk => (b1 k hk).1.imp id fun h => by omega, cA.then cB fun k hk => .inl hk⟩
  · rintro (e | e)
    · exact H.gh e
    · exact (H.bg g e).2 rfl
  · rintro k hk (e | e)
    · exact (a1 k hk).2.2.1 e
    · exact (a1 k hk).2.2.2 e
  · rintro k hk (e | e)
    · exact (y1 k hk).2.2.1 e
    · exact (y1 k hk).2.2.2 e
/-- What is changed after: the piece's own bytes. -/
theorem TkR.at {w0 wr w4 w5 w6 W : World} {g h : Nat} {v1 v1' y z : Value} {r : It × List UInt8 × Bool × Nat} (H : TkR w0 wr w4 w5 w6 g h v1 v1' y z r) (hg : g < wr.heap.size ∧ h < wr.heap.size) (h0 : w0.heap.size ≤ wr.heap.size) {T : Nat → Prop} (hc : Chg w6 W T) (hT : ∀ k, T k → wr.heap.size ≤ k ∧ k < w4.heap.size) :
    Tks w0 W g h v1 v1' r.1 ∧ By W y r.2.1 ∧ By W z r.2.1 := by
  refine ⟨⟨Chg.to_below H.t.bel hc fun k hk => by have := hT k hk; omega, H.t.a.chg hc (fun h => by have := hT _ h; omega) (fun k hk h => by have := hT _ h; have := H.al k hk; omega),
    H.t.b.chg hc (fun h => by have := hT _ h; omega) (fun k hk h => by have := hT _ h; have := H.bl k hk; omega), H.t.gh, H.t.g0, H.t.h0, H.t.ah, H.t.bg⟩,
    (vown_chg H.oy hc fun k hk h => by have := hT _ h; have := H.yl k hk; omega).by_, (vown_chg H.oz hc fun k hk h => by have := hT _ h; have := H.zl k hk; omega).by_⟩
theorem vby_lt {w : World} {v : Value} {l : List UInt8} (h : By w v l) (hl : l ≠ []) : ∀ k, v.ownBlock = some k → k < w.heap.size := by
  obtain ⟨p, c, rfl, hlc, hm, hn, hc⟩ := h
  intro k hk
  rcases p with _ | a
  · cases hk
  · injection hk with hk
    subst hk
    obtain ⟨x, r, rfl⟩ := List.exists_cons_of_ne_nil hl
    have := lt_of_cell (hc a rfl 0 x rfl)
    rwa [block_add] at this

set_option maxRecDepth 200000 in
set_option maxHeartbeats 40000000 in
theorem lawVTakes_any {w : World} (ht : Tab w) {v : Value} {D : List Dpt} (h : Dpts w v D) (hz : ∀ (k : Nat) d, D[k]? = some d → d.b.length ≤ 140737488351232) :
    Calls Tryz.prog 9 #[v] w fun e w' => e = .returned (.bool true) ∧ Below w.heap.size w w' := by
  obtain ⟨p, c, rfl, hc1, hc2, hat⟩ := h
  obtain ⟨len, hlen⟩ : ∃ len, D.length = len := ⟨_, rfl⟩
  rw [hlen] at hc1 ⊢
  unfold maxLen at hc2
  have HAT := hide hat
  have HZ := hide hz
  have HL := hide hlen
  have HAW := hide (fun (W : World) (hb : Below w.heap.size w W) => vawake_any (ht.below hb ht.lt))
  clear hat hz hlen ht
  go_enter Tryz.func9, Tryz.ntmps9
  go_wp2_with fail
  go_loopw [3, 4] (fun n i wr => ∃ (j : Nat) (nn : Int), j ≤ len ∧ j ≤ 101 ∧ n = .int .i64 nn ∧ i = .int .i64 j ∧ wr = w) (fun _ i _ => len - (intOf i).toNat)
  case atStart => exact ⟨0, 0, by omega, by omega, by first | trivial | rfl, by first | trivial | rfl, by first | trivial | rfl⟩
  case round =>
    obtain ⟨j, nn, hj, hj2, rfl, rfl, hw⟩ := hrel
    have hw' := hw.symm
    subst hw'
    clear hw
    by_cases hjn : (j : Int) < (len : Int)
    · by_cases hj100 : (j : Int) ≤ 100
      · obtain ⟨d, hd⟩ : ∃ d, D[j]? = some d := ⟨_, List.getElem?_eq_getElem (by have := HL.out; omega)⟩
        obtain ⟨gl, o, rfl, hin, hcell⟩ := HAT.out j d hd
        obtain ⟨oo, hoo⟩ : ∃ oo, o + j * 5 = oo := ⟨_, rfl⟩
        rw [hoo] at hcell
        have e3 : w.cell? ⟨gl, oo + 3, none⟩ = some (.slice d.pb d.nb d.db) := hcell 3 _ rfl
        clear hin hcell hd
        go_wp2
        go_roundw
        case rel => exact ⟨j + 1, _, by omega, by omega, rfl, by go_num, by first | trivial | rfl⟩
        case measure => simp [intOf]; omega
      · have hl : (100 : Int) < (len : Int) := by omega
        go_wp2_with (go_at_call 12; refine (HAW.out _ (Below.refl _ _)).mono ?_; rintro e w2 ⟨rfl, hb2⟩)
        go_ret
        exact ⟨rfl, hb2⟩
    · by_cases hl : (100 : Int) < (len : Int)
      · go_wp2_with (go_at_call 12; refine (HAW.out _ (Below.refl _ _)).mono ?_; rintro e w2 ⟨rfl, hb2⟩)
        go_ret
        exact ⟨rfl, hb2⟩
      · by_cases hn : (1048576 : Int) < nn
        · go_wp2_with (go_at_call 12; refine (HAW.out _ (Below.refl _ _)).mono ?_; rintro e w2 ⟨rfl, hb2⟩)
          go_ret
          exact ⟨rfl, hb2⟩
        · obtain ⟨X, hX⟩ : ∃ X, (w.alloc (.cells #[.int .i64 0, .int .i64 0, .slice none 0 0] 70)).alloc (.cells #[.int .i64 0, .int .i64 0, .slice none 0 0] 82) = X := ⟨_, rfl⟩
          have hbX : Below w.heap.size w X := by rw [← hX]; exact balloc (balloc (Below.refl _ _) _) _
          have hrA : X.heap[w.heap.size]? = some (.cells #[.int .i64 0, .int .i64 0, .slice none 0 0] 70 (0, 0)) := by
            rw [← hX]; exact (Below.heap_alloc _ _ _ (by simp)).trans Array.getElem?_push_size
          have hrB : X.heap[w.heap.size + 1]? = some (.cells #[.int .i64 0, .int .i64 0, .slice none 0 0] 82 (0, 0)) := by
            rw [← hX]
            have := World.alloc_heap_new (w.alloc (.cells #[.int .i64 0, .int .i64 0, .slice none 0 0] 70)) (.cells #[.int .i64 0, .int .i64 0, .slice none 0 0] 82)
            simpa using this
          have HTX : Hid (Tks w X w.heap.size (w.heap.size + 1) (.slice none 0 0) (.slice none 0 0) ⟨0, 0, []⟩) := hide ⟨hbX, ⟨hrA, Own.nil _ _, fun e => (by cases e), by simp, fun k hk => by cases hk⟩, ⟨hrB, Own.nil _ _, fun e => (by cases e), by simp, fun k hk => by cases hk⟩, by omega, by omega, by omega, fun k hk => (by cases hk), fun k hk => by cases hk⟩
          clear hbX hrA hrB
          go_wp2_with fail
          go_loopw [8, 9, 10, 11, 12, 13, 14, 15, 16, 17, 49] (fun _ _ _ _ _ _ _ _ _ _ i wr => ∃ j : Nat, j ≤ len ∧ i = .int .i64 j ∧ Hid (∃ v v' x, Tks w wr w.heap.size (w.heap.size + 1) v v' x)) (fun _ _ _ _ _ _ _ _ _ _ i _ => len - (intOf i).toNat)
          case atStart => exact ⟨0, by omega, rfl, hide ⟨_, _, _, HTX.out⟩⟩
          case round =>
            obtain ⟨j2, hj2, rfl, hrel⟩ := hrel
            obtain ⟨v, v', x, hT⟩ := hrel.out
            have HTK := hide hT
            clear hT hrel hX HTX
            by_cases hjn2 : (j2 : Int) < (len : Int)
            · obtain ⟨d, hd⟩ : ∃ d, D[j2]? = some d := ⟨_, List.getElem?_eq_getElem (by have := HL.out; omega)⟩
              obtain ⟨gl, o, rfl, hin, hcell⟩ := HAT.out j2 d hd
              obtain ⟨oo, hoo⟩ : ∃ oo, o + j2 * 5 = oo := ⟨_, rfl⟩
              rw [hoo] at hcell
              have HDB := hide (HZ.out j2 d hd)
              have hbw := HTK.out.bel
              have e0 : wr.cell? ⟨gl, oo, none⟩ = some (.int .i64 d.ix) := (hbw.cell (lt_of_cell (hcell 0 _ rfl))).trans (hcell 0 _ rfl)
              have e1 : wr.cell? ⟨gl, oo + 1, none⟩ = some (.int .i64 d.tm) := (hbw.cell (lt_of_cell (hcell 1 _ rfl))).trans (hcell 1 _ rfl)
              have e2 : wr.cell? ⟨gl, oo + 2, none⟩ = some (.int .i64 d.at_) := (hbw.cell (lt_of_cell (hcell 2 _ rfl))).trans (hcell 2 _ rfl)
              have e3 : wr.cell? ⟨gl, oo + 3, none⟩ = some (.slice d.pb d.nb d.db) := (hbw.cell (lt_of_cell (hcell 3 _ rfl))).trans (hcell 3 _ rfl)
              have e4 : wr.cell? ⟨gl, oo + 4, none⟩ = some (.bool d.dn) := (hbw.cell (lt_of_cell (hcell 4 _ rfl))).trans (hcell 4 _ rfl)
              have HIN : Hid (By w (.slice d.pb d.nb d.db) d.b) := hide hin.h3
              clear hin hcell hbw hd
              obtain ⟨ix, tm, at_, pb, nb, db, bb, dn⟩ := d
              dsimp only at e0 e1 e2 e3 e4 HIN HDB
              obtain ⟨W2, hW2⟩ : ∃ W2, wr.alloc (.cells #[.int .i64 ix, .int .i64 tm, .int .i64 at_, .slice pb nb db, .bool dn] 79) = W2 := ⟨_, rfl⟩
              have hc2w : Chg wr W2 (fun _ => False) := by rw [← hW2]; exact Chg.of_alloc _ _ _
              have hr2 : W2.heap[wr.heap.size]? = some (.cells #[.int .i64 ix, .int .i64 tm, .int .i64 at_, .slice pb nb db, .bool dn] 79 (0, 0)) := by rw [← hW2]; exact Array.getElem?_push_size
              have hs2 : W2.heap.size = wr.heap.size + 1 := by rw [← hW2]; simp
              have b3 : W2.cell? ⟨wr.heap.size, 3, none⟩ = some (.slice pb nb db) := by rw [cell_of_row W2 _ 3 _ _ (0, 0) hr2]; rfl
              have HCL := hide (sclone_any (HIN.out.below (Chg.to_below HTK.out.bel hc2w fun k hk => hk.elim)) (Nat.le_trans HDB.out (by omega)))
              have HC2 := hide hc2w
              have HR2 := hide hr2
              have HS2 := hide hs2
              clear hc2w hr2 hs2
              go_wp2_with fail
              refine HCL.out.mono ?_
              rintro e w4 ⟨v4, rfl, ho4, hb4⟩
              obtain ⟨p4, n4, c4, rfl⟩ := ho4.by_.sl
              have hn4 : n4 = bb.length := ho4.by_.len.1
              have hc4 : Chg wr w4 (fun _ => False) := HC2.out.then (Chg.of_below hb4 (fun _ => False)) fun k hk => .inl hk
              have hr4 := (hb4.block wr.heap.size (by have := HS2.out; omega)).trans HR2.out
              have hT4 := HTK.out.at hc4 fun k hk => hk.elim
              have hs4 : wr.heap.size < w4.heap.size := (Array.getElem?_eq_some_iff.1 hr4).1
              have HTA := hide (vtake_any hT4.a (ix := ix) (tm := tm) (at_ := at_) (d := dn) ho4.by_ HDB.out (.inr fun k hk e => by have := vown_ge ho4 k hk; have := HTK.out.gl; have := HS2.out; omega))
              have HHR := hide (fun (V : World) (hV : Chg w4 V (fun k => w.heap.size ≤ k ∧ k < wr.heap.size)) => (hV.block wr.heap.size hs4 (fun hk => by omega)).trans hr4)
              have HC4 := hide hc4
              have HO4 := hide ho4
              have HN4 := hide hn4
              have HS4 := hide hs4
              have a0 : w4.cell? ⟨wr.heap.size, 0, none⟩ = some (.int .i64 ix) := by rw [cell_of_row w4 _ 0 _ _ (0, 0) hr4]; rfl
              have a1 : w4.cell? ⟨wr.heap.size, 1, none⟩ = some (.int .i64 tm) := by rw [cell_of_row w4 _ 1 _ _ (0, 0) hr4]; rfl
              have a2 : w4.cell? ⟨wr.heap.size, 2, none⟩ = some (.int .i64 at_) := by rw [cell_of_row w4 _ 2 _ _ (0, 0) hr4]; rfl
              have a4 : w4.cell? ⟨wr.heap.size, 4, none⟩ = some (.bool dn) := by rw [cell_of_row w4 _ 4 _ _ (0, 0) hr4]; rfl
              obtain ⟨r, hr⟩ : ∃ r, x.take ix tm at_ bb dn = r := ⟨_, rfl⟩
              rw [hr] at HTA
              have hle := It.take_le x ix tm at_ bb dn hT4.a.le
              rw [hr] at hle
              have HLE := hide hle
              have HRT := hide hr
              clear hr hle ho4 hb4 hn4 hc4 hr4 hT4 hs4 hW2 b3 e0 e1 e2 e3 e4
              go_wp2_with fail
              refine HTA.out.mono ?_
              rintro e w5 ⟨v1, y, rfl, k1, k2, k3, k4, k5⟩
              obtain ⟨q1, q2⟩ := tks_first HTK.out HC4.out ⟨v1, y, rfl, k1, k2, k3, k4, k5⟩
              obtain ⟨py, ny, cy, rfl⟩ := k2.by_.sl
              have HTB := hide (vrtake_any q1 (ix := ix) (tm := tm) (at_ := at_) (d := dn) (HIN.out.below (Chg.to_below (Chg.to_below HTK.out.bel HC4.out fun k hk => hk.elim) q2 fun k hk => hk.1)) HDB.out (by by_cases hbb : bb = []; exact .inl hbb; exact .inr fun k hk e => by have := vby_lt HIN.out hbb k hk; omega))
              rw [HRT.out] at HTB
              have hr5 := HHR.out w5 q2
              have b0 : w5.cell? ⟨wr.heap.size, 0, none⟩ = some (.int .i64 ix) := by rw [cell_of_row w5 _ 0 _ _ (0, 0) hr5]; rfl
              have b1 : w5.cell? ⟨wr.heap.size, 1, none⟩ = some (.int .i64 tm) := by rw [cell_of_row w5 _ 1 _ _ (0, 0) hr5]; rfl
              have b2 : w5.cell? ⟨wr.heap.size, 2, none⟩ = some (.int .i64 at_) := by rw [cell_of_row w5 _ 2 _ _ (0, 0) hr5]; rfl
              have b3 : w5.cell? ⟨wr.heap.size, 3, none⟩ = some (.slice pb nb db) := by rw [cell_of_row w5 _ 3 _ _ (0, 0) hr5]; rfl
              have b4 : w5.cell? ⟨wr.heap.size, 4, none⟩ = some (.bool dn) := by rw [cell_of_row w5 _ 4 _ _ (0, 0) hr5]; rfl
              have K := hide (And.intro k1 (And.intro k2 (And.intro k3 (And.intro k4 k5))))
              clear k1 k2 k3 k4 k5 q1 q2 hr5 a0 a1 a2 a4
              go_wp2_with fail
              refine HTB.out.mono ?_
              rintro e w6 ⟨v1', z, rfl, j1, j2, j3, j4, j5⟩
              have hR := tks_second HTK.out HC4.out K.out.1 K.out.2.1 K.out.2.2.1 K.out.2.2.2.1 K.out.2.2.2.2 j1 j2 j3 j4 j5
              obtain ⟨pz, nz, cz, rfl⟩ := j2.by_.sl
              have HR6 := hide hR
              have hr6 := HHR.out w6 hR.cg
              have d0 : w6.cell? ⟨wr.heap.size, 0, none⟩ = some (.int .i64 ix) := by rw [cell_of_row w6 _ 0 _ _ (0, 0) hr6]; rfl
              have d1 : w6.cell? ⟨wr.heap.size, 1, none⟩ = some (.int .i64 tm) := by rw [cell_of_row w6 _ 1 _ _ (0, 0) hr6]; rfl
              obtain ⟨pw, nw, cw, rfl⟩ := hR.t.b.own.by_.sl
              have hnw : nw = r.1.da.length := hR.t.b.own.by_.len.1
              have c0 : w6.cell? ⟨w.heap.size + 1, 0, none⟩ = some (.int .i64 r.1.ix) := by rw [cell_of_row w6 _ 0 _ _ (0, 0) hR.t.b.row]; rfl
              have c1 : w6.cell? ⟨w.heap.size + 1, 1, none⟩ = some (.int .i64 r.1.tm) := by rw [cell_of_row w6 _ 1 _ _ (0, 0) hR.t.b.row]; rfl
              have c2 : w6.cell? ⟨w.heap.size + 1, 2, none⟩ = some (.slice pw nw cw) := by rw [cell_of_row w6 _ 2 _ _ (0, 0) hR.t.b.row]; rfl
              have HNW := hide hnw
              have HR6R := hide hr6
              clear j1 j2 j3 j4 j5 hR hr6 hnw b0 b1 b2 b3 b4
              go_wp2_with fail
              by_cases i1 : r.1.ix = ix
              · by_cases i2 : r.1.tm = tm
                · have g1 : (r.1.ix == ix) = true := by simpa using i1
                  have g2 : (r.1.tm == tm) = true := by simpa using i2
                  refine wp_region_held_drew (S := fun W => W.cell? ⟨wr.heap.size, 0, none⟩ = some (.int .i64 ix) ∧ W.cell? ⟨wr.heap.size, 1, none⟩ = some (.int .i64 tm) ∧ W.cell? ⟨w.heap.size + 1, 0, none⟩ = some (.int .i64 r.1.ix) ∧ W.cell? ⟨w.heap.size + 1, 1, none⟩ = some (.int .i64 r.1.tm) ∧ W.cell? ⟨w.heap.size + 1, 2, none⟩ = some (.slice pw nw cw)) (by kernel_rfl) ?_ (fun hHeld => ?_)
                  · (try dsimp only)
                    exact ⟨d0, d1, c0, c1, c2⟩
                  refine wpAnyH_take (i := 0) (oi := { dst := some 86, op := Op.move (Operand.tmp 6), type := 80, pos := "law.go:311", after := #[], guard := none }) (v := ?_) rfl (by kernel_rfl) (by kernel_rfl) (by kernel_rfl) (fun _ _ _ h => h) (Or.inl ⟨by rfl, ?_⟩) (by assumption) ?_
                  rotate_left
                  · intro w hSw
                    (try dsimp only at hSw)
                    go_simp
                    try with_reducible rfl
                  try simp only [Act.put, List.setIfInBounds_toArray, List.set_cons_zero, List.set_cons_succ]
                  refine wpAnyH_take (i := 1) (oi := { dst := some 87, op := Op.nilCheck (Operand.tmp 86), type := 0, pos := "law.go:311", after := _, guard := none }) (v := ?_) rfl (by kernel_rfl) (by kernel_rfl) (by kernel_rfl) (fun _ _ _ h => h) (Or.inl ⟨by rfl, ?_⟩) (by assumption) ?_
                  rotate_left
                  · intro w hSw
                    (try dsimp only at hSw)
                    go_simp
                    try with_reducible rfl
                  try simp only [Act.put, List.setIfInBounds_toArray, List.set_cons_zero, List.set_cons_succ]
                  refine wpAnyH_take (i := 2) (oi := { dst := some 88, op := Op.fieldAddr 82 (Operand.tmp 87) 0, type := 0, pos := "law.go:311", after := _, guard := none }) (v := ?_) rfl (by kernel_rfl) (by kernel_rfl) (by kernel_rfl) (fun _ _ _ h => h) (Or.inl ⟨by rfl, ?_⟩) (by assumption) ?_
                  rotate_left
                  · intro w hSw
                    (try dsimp only at hSw)
                    go_simp
                    try with_reducible rfl
                  try simp only [Act.put, List.setIfInBounds_toArray, List.set_cons_zero, List.set_cons_succ]
                  refine wpAnyH_take (i := 3) (oi := { dst := some 89, op := Op.load 3 (Operand.tmp 88), type := 3, pos := "law.go:311", after := _, guard := none }) (v := ?_) rfl (by kernel_rfl) (by kernel_rfl) (by kernel_rfl) (fun _ _ _ h => h) (Or.inl ⟨by rfl, ?_⟩) (by assumption) ?_
                  rotate_left
                  · intro w hSw
                    (try dsimp only at hSw)
                    go_simp
                    try with_reducible rfl
                  try simp only [Act.put, List.setIfInBounds_toArray, List.set_cons_zero, List.set_cons_succ]
                  refine wpAnyH_take (i := 4) (oi := { dst := some 90, op := Op.fieldAddr 79 (Operand.tmp 8) 0, type := 0, pos := "law.go:311", after := #[], guard := none }) (v := ?_) rfl (by kernel_rfl) (by kernel_rfl) (by kernel_rfl) (fun _ _ _ h => h) (Or.inl ⟨by rfl, ?_⟩) (by assumption) ?_
                  rotate_left
                  · intro w hSw
                    (try dsimp only at hSw)
                    go_simp
                    try with_reducible rfl
                  try simp only [Act.put, List.setIfInBounds_toArray, List.set_cons_zero, List.set_cons_succ]
                  refine wpAnyH_take (i := 5) (oi := { dst := some 91, op := Op.load 3 (Operand.tmp 90), type := 3, pos := "law.go:311", after := _, guard := none }) (v := ?_) rfl (by kernel_rfl) (by kernel_rfl) (by kernel_rfl) (fun _ _ _ h => h) (Or.inl ⟨by rfl, ?_⟩) (by assumption) ?_
                  rotate_left
                  · intro w hSw
                    (try dsimp only at hSw)
                    go_simp
                    try with_reducible rfl
                  try simp only [Act.put, List.setIfInBounds_toArray, List.set_cons_zero, List.set_cons_succ]
                  refine wpAnyH_take (i := 6) (oi := { dst := some 92, op := Op.binOp BinOp.eql 3 (Operand.tmp 89) (Operand.tmp 91) 3, type := 4, pos := "law.go:311", after := _, guard := none }) (v := ?_) rfl (by kernel_rfl) (by kernel_rfl) (by kernel_rfl) (fun _ _ _ h => h) (Or.inl ⟨by rfl, ?_⟩) (by assumption) ?_
                  rotate_left
                  · intro w hSw
                    (try dsimp only at hSw)
                    go_simp
                    try with_reducible rfl
                  try simp only [Act.put, List.setIfInBounds_toArray, List.set_cons_zero, List.set_cons_succ]
                  refine wpAnyH_take (i := 7) (oi := { dst := some 93, op := Op.move (Operand.tmp 92), type := 4, pos := "law.go:311", after := _, guard := none }) (v := ?_) rfl (by kernel_rfl) (by kernel_rfl) (by kernel_rfl) (fun _ _ _ h => h) (Or.inl ⟨by rfl, ?_⟩) (by assumption) ?_
                  rotate_left
                  · intro w hSw
                    (try dsimp only at hSw)
                    go_simp
                    try with_reducible rfl
                  try simp only [Act.put, List.setIfInBounds_toArray, List.set_cons_zero, List.set_cons_succ]
                  refine wpAnyH_take (i := 8) (oi := { dst := some 94, op := Op.move (Operand.tmp 6), type := 80, pos := "law.go:311", after := _, guard := some (7, true) }) (v := ?_) rfl (by kernel_rfl) (by kernel_rfl) (by kernel_rfl) (fun _ _ _ h => h) (Or.inl ⟨by rfl, ?_⟩) (by assumption) ?_
                  rotate_left
                  · intro w hSw
                    (try dsimp only at hSw)
                    go_simp
                    try with_reducible rfl
                  try simp only [Act.put, List.setIfInBounds_toArray, List.set_cons_zero, List.set_cons_succ]
                  refine wpAnyH_take (i := 9) (oi := { dst := some 95, op := Op.nilCheck (Operand.tmp 94), type := 0, pos := "law.go:311", after := _, guard := some (7, true) }) (v := ?_) rfl (by kernel_rfl) (by kernel_rfl) (by kernel_rfl) (fun _ _ _ h => h) (Or.inl ⟨by rfl, ?_⟩) (by assumption) ?_
                  rotate_left
                  · intro w hSw
                    (try dsimp only at hSw)
                    go_simp
                    try with_reducible rfl
                  try simp only [Act.put, List.setIfInBounds_toArray, List.set_cons_zero, List.set_cons_succ]
                  refine wpAnyH_take (i := 10) (oi := { dst := some 96, op := Op.fieldAddr 82 (Operand.tmp 95) 1, type := 0, pos := "law.go:311", after := _, guard := some (7, true) }) (v := ?_) rfl (by kernel_rfl) (by kernel_rfl) (by kernel_rfl) (fun _ _ _ h => h) (Or.inl ⟨by rfl, ?_⟩) (by assumption) ?_
                  rotate_left
                  · intro w hSw
                    (try dsimp only at hSw)
                    go_simp
                    try with_reducible rfl
                  try simp only [Act.put, List.setIfInBounds_toArray, List.set_cons_zero, List.set_cons_succ]
                  refine wpAnyH_take (i := 11) (oi := { dst := some 97, op := Op.load 3 (Operand.tmp 96), type := 3, pos := "law.go:311", after := _, guard := some (7, true) }) (v := ?_) rfl (by kernel_rfl) (by kernel_rfl) (by kernel_rfl) (fun _ _ _ h => h) (Or.inl ⟨by rfl, ?_⟩) (by assumption) ?_
                  rotate_left
                  · intro w hSw
                    (try dsimp only at hSw)
                    go_simp
                    try with_reducible rfl
                  try simp only [Act.put, List.setIfInBounds_toArray, List.set_cons_zero, List.set_cons_succ]
                  refine wpAnyH_take (i := 12) (oi := { dst := some 98, op := Op.fieldAddr 79 (Operand.tmp 8) 1, type := 0, pos := "law.go:311", after := _, guard := some (7, true) }) (v := ?_) rfl (by kernel_rfl) (by kernel_rfl) (by kernel_rfl) (fun _ _ _ h => h) (Or.inl ⟨by rfl, ?_⟩) (by assumption) ?_
                  rotate_left
                  · intro w hSw
                    (try dsimp only at hSw)
                    go_simp
                    try with_reducible rfl
                  try simp only [Act.put, List.setIfInBounds_toArray, List.set_cons_zero, List.set_cons_succ]
                  refine wpAnyH_take (i := 13) (oi := { dst := some 99, op := Op.load 3 (Operand.tmp 98), type := 3, pos := "law.go:311", after := _, guard := some (7, true) }) (v := ?_) rfl (by kernel_rfl) (by kernel_rfl) (by kernel_rfl) (fun _ _ _ h => h) (Or.inl ⟨by rfl, ?_⟩) (by assumption) ?_
                  rotate_left
                  · intro w hSw
                    (try dsimp only at hSw)
                    go_simp
                    try with_reducible rfl
                  try simp only [Act.put, List.setIfInBounds_toArray, List.set_cons_zero, List.set_cons_succ]
                  refine wpAnyH_take (i := 14) (oi := { dst := some 100, op := Op.binOp BinOp.eql 3 (Operand.tmp 97) (Operand.tmp 99) 3, type := 4, pos := "law.go:311", after := _, guard := some (7, true) }) (v := ?_) rfl (by kernel_rfl) (by kernel_rfl) (by kernel_rfl) (fun _ _ _ h => h) (Or.inl ⟨by rfl, ?_⟩) (by assumption) ?_
                  rotate_left
                  · intro w hSw
                    (try dsimp only at hSw)
                    go_simp
                    try with_reducible rfl
                  try simp only [Act.put, List.setIfInBounds_toArray, List.set_cons_zero, List.set_cons_succ]
                  refine wpAnyH_take (i := 15) (oi := { dst := some 101, op := Op.pick (Operand.tmp 93) (Operand.tmp 100) (Operand.const (Value.bool false)), type := 4, pos := "law.go:311", after := _, guard := none }) (v := ?_) rfl (by kernel_rfl) (by kernel_rfl) (by kernel_rfl) (fun _ _ _ h => h) (Or.inl ⟨by rfl, ?_⟩) (by assumption) ?_
                  rotate_left
                  · intro w hSw
                    (try dsimp only at hSw)
                    go_simp
                    try with_reducible rfl
                  try simp only [Act.put, List.setIfInBounds_toArray, List.set_cons_zero, List.set_cons_succ]
                  refine wpAnyH_done (by kernel_rfl) ?_ _
                  obtain ⟨w7, h7⟩ : ∃ w7, w6.drew = w7 := ⟨_, rfl⟩
                  rw [h7] at hHeld ⊢
                  obtain ⟨-, -, -, -, f2⟩ := hHeld
                  have hc7 : Chg w6 w7 (fun _ => False) := h7 ▸ (Chg.refl w6 _).drewN 1
                  have ho7 : Own W2.heap.size w7 (.slice p4 n4 c4) bb := vown_chg (vown_chg HO4.out HR6.out.cg fun k hk e => by have := vown_ge HO4.out k hk; have := HS2.out; omega) hc7 fun k hk e => e
                  have HC7 := hide hc7
                  have HO7 := hide ho7
                  have hn4c : (n4 : Int) ≤ 140737488351232 := by have := HN4.out; have := HDB.out; omega
                  have HN4C := hide hn4c
                  obtain ⟨T, hT⟩ : ∃ T : Nat → Prop, T = (fun k => W2.heap.size ≤ k ∧ k < w4.heap.size) := ⟨_, rfl⟩
                  have HTT := hide (show ∀ k, T k → W2.heap.size ≤ k ∧ k < w4.heap.size from fun k hk => by rw [hT] at hk; exact hk)
                  have HSTP := hide (show ∀ (V : World) (l' : List UInt8) (k : Nat), Chg w7 V T → l'.length = n4 → Own W2.heap.size V (.slice p4 n4 c4) l' → k < n4 → ∃ (gg : Nat) (y : UInt8), p4 = some ⟨gg, 0, none⟩ ∧ V.cell? ⟨gg, k, none⟩ = some (.int .u8 (y.toNat : Int)) ∧ V.frozen? ⟨gg, k, none⟩ = false ∧
                      Hid ((∃ l2 : List UInt8, l2.length = n4 ∧ Own W2.heap.size (V.setCell ⟨gg, k, none⟩ (.int .u8 (bits BinOp.xor IntKind.u8 (y.toNat : Int) 255))) (.slice p4 n4 c4) l2) ∧ Chg w7 (V.setCell ⟨gg, k, none⟩ (.int .u8 (bits BinOp.xor IntKind.u8 (y.toNat : Int) 255))) T) from fun V l' k hV hl' hO hk => by
                    obtain ⟨gg, y, e1, e2, e3, e4, l2, e5, e6⟩ := vown_set hO hk
                    have hlt := HO4.out.lt (by have := HN4.out; omega) gg (by rw [e1]; rfl)
                    refine ⟨gg, y, e1, e3, e4, hide ⟨⟨l2, by omega, e6⟩, hV.trans (chg_set V gg k _) fun i hi => ?_⟩⟩
                    rw [hi, hT]
                    exact .inl ⟨e2, hlt.2⟩)
                  have HC7T := hide (Chg.refl w7 T)
                  have HFIN := hide (show ∀ V, Chg w7 V T → (Tks w V w.heap.size (w.heap.size + 1) v1 (.slice pw nw cw) r.1 ∧ By V (.slice py ny cy) r.2.1 ∧ By V (.slice pz nz cz) r.2.1) ∧ V.cell? ⟨wr.heap.size, 0, none⟩ = some (.int .i64 ix) ∧ V.cell? ⟨wr.heap.size, 1, none⟩ = some (.int .i64 tm) from fun V hV => by
                    have hc6 := (HC7.out.mono' (S' := T) fun k hk => hk.elim).then hV fun i hi => .inl hi
                    have hrr := (hc6.block wr.heap.size (Array.getElem?_eq_some_iff.1 HR6R.out).1 (fun h => by have := HTT.out _ h; have := HS2.out; omega)).trans HR6R.out
                    exact ⟨HR6.out.at HTK.out.gl HTK.out.bel.size hc6 fun k hk => by have := HTT.out k hk; have := HS2.out; omega, by rw [cell_of_row V _ 0 _ _ (0, 0) hrr]; rfl, by rw [cell_of_row V _ 1 _ _ (0, 0) hrr]; rfl⟩)
                  have HEV : Hid (r.1.have_ ix tm = nw) := hide (by unfold It.have_; rw [if_pos ⟨i1, i2⟩]; exact HNW.out.symm)
                  clear hc7 ho7 hn4c h7 hT
                  go_wp2_with fail
                  go_loopw [17, 109] (fun _ i wr2 => ∃ k : Nat, k ≤ n4 ∧ i = .int .i64 k ∧ Hid ((∃ l' : List UInt8, l'.length = n4 ∧ Own W2.heap.size wr2 (.slice p4 n4 c4) l') ∧ Chg w7 wr2 T)) (fun _ i _ => n4 - (intOf i).toNat)
                  case atStart => exact ⟨0, Nat.zero_le _, rfl, hide ⟨⟨bb, HN4.out.symm, HO7.out⟩, HC7T.out⟩⟩
                  case round =>
                    obtain ⟨k, hk, rfl, hrel⟩ := hrel
                    obtain ⟨⟨l2, hl2, hO2⟩, hcT⟩ := hrel.out
                    by_cases hkn : (k : Int) < (n4 : Int)
                    · obtain ⟨gg, y, rfl, v5, v6, hnx⟩ := HSTP.out _ l2 k hcT hl2 hO2 (by omega)
                      have hk4 := HN4C.out
                      clear hO2 hcT hrel hl2
                      go_wp2
                      go_roundw
                      case rel => exact ⟨k + 1, by omega, by go_num, hnx⟩
                      case measure => simp [intOf]; omega
                    · obtain ⟨⟨hTF, hy, hz⟩, x0, x1⟩ := HFIN.out _ hcT
                      have HEQ := hide (equal_any hy hz)
                      rw [show ((r.2.1 == r.2.1) : Bool) = true from beq_self_eq_true _] at HEQ
                      have HHV := hide (vhave_any hTF.a ix tm)
                      rw [HEV.out] at HHV
                      have HTF := hide hTF
                      have hk5 : k = n4 := by omega
                      clear hO2 hcT hrel hl2 hTF hy hz
                      go_wp2_with (first | (go_at_call 39; refine HEQ.out.mono ?_; rintro e w8 ⟨rfl, rfl⟩) | (go_at_call 37; refine HHV.out.mono ?_; rintro e w9 ⟨rfl, rfl⟩))
                      go_roundw
                      case rel => exact ⟨j2 + 1, by omega, by go_num, hide ⟨_, _, _, HTF.out⟩⟩
                      case measure => simp [intOf]; omega
                · have g1 : (r.1.ix == ix) = true := by simpa using i1
                  have g2 : (r.1.tm == tm) = false := by simpa using i2
                  refine wp_region_held_drew (S := fun W => W.cell? ⟨wr.heap.size, 0, none⟩ = some (.int .i64 ix) ∧ W.cell? ⟨wr.heap.size, 1, none⟩ = some (.int .i64 tm) ∧ W.cell? ⟨w.heap.size + 1, 0, none⟩ = some (.int .i64 r.1.ix) ∧ W.cell? ⟨w.heap.size + 1, 1, none⟩ = some (.int .i64 r.1.tm) ∧ W.cell? ⟨w.heap.size + 1, 2, none⟩ = some (.slice pw nw cw)) (by kernel_rfl) ?_ (fun hHeld => ?_)
                  · (try dsimp only)
                    exact ⟨d0, d1, c0, c1, c2⟩
                  refine wpAnyH_take (i := 0) (oi := { dst := some 86, op := Op.move (Operand.tmp 6), type := 80, pos := "law.go:311", after := #[], guard := none }) (v := ?_) rfl (by kernel_rfl) (by kernel_rfl) (by kernel_rfl) (fun _ _ _ h => h) (Or.inl ⟨by rfl, ?_⟩) (by assumption) ?_
                  rotate_left
                  · intro w hSw
                    (try dsimp only at hSw)
                    go_simp
                    try with_reducible rfl
                  try simp only [Act.put, List.setIfInBounds_toArray, List.set_cons_zero, List.set_cons_succ]
                  refine wpAnyH_take (i := 1) (oi := { dst := some 87, op := Op.nilCheck (Operand.tmp 86), type := 0, pos := "law.go:311", after := _, guard := none }) (v := ?_) rfl (by kernel_rfl) (by kernel_rfl) (by kernel_rfl) (fun _ _ _ h => h) (Or.inl ⟨by rfl, ?_⟩) (by assumption) ?_
                  rotate_left
                  · intro w hSw
                    (try dsimp only at hSw)
                    go_simp
                    try with_reducible rfl
                  try simp only [Act.put, List.setIfInBounds_toArray, List.set_cons_zero, List.set_cons_succ]
                  refine wpAnyH_take (i := 2) (oi := { dst := some 88, op := Op.fieldAddr 82 (Operand.tmp 87) 0, type := 0, pos := "law.go:311", after := _, guard := none }) (v := ?_) rfl (by kernel_rfl) (by kernel_rfl) (by kernel_rfl) (fun _ _ _ h => h) (Or.inl ⟨by rfl, ?_⟩) (by assumption) ?_
                  rotate_left
                  · intro w hSw
                    (try dsimp only at hSw)
                    go_simp
                    try with_reducible rfl
                  try simp only [Act.put, List.setIfInBounds_toArray, List.set_cons_zero, List.set_cons_succ]
                  refine wpAnyH_take (i := 3) (oi := { dst := some 89, op := Op.load 3 (Operand.tmp 88), type := 3, pos := "law.go:311", after := _, guard := none }) (v := ?_) rfl (by kernel_rfl) (by kernel_rfl) (by kernel_rfl) (fun _ _ _ h => h) (Or.inl ⟨by rfl, ?_⟩) (by assumption) ?_
                  rotate_left
                  · intro w hSw
                    (try dsimp only at hSw)
                    go_simp
                    try with_reducible rfl
                  try simp only [Act.put, List.setIfInBounds_toArray, List.set_cons_zero, List.set_cons_succ]
                  refine wpAnyH_take (i := 4) (oi := { dst := some 90, op := Op.fieldAddr 79 (Operand.tmp 8) 0, type := 0, pos := "law.go:311", after := #[], guard := none }) (v := ?_) rfl (by kernel_rfl) (by kernel_rfl) (by kernel_rfl) (fun _ _ _ h => h) (Or.inl ⟨by rfl, ?_⟩) (by assumption) ?_
                  rotate_left
                  · intro w hSw
                    (try dsimp only at hSw)
                    go_simp
                    try with_reducible rfl
                  try simp only [Act.put, List.setIfInBounds_toArray, List.set_cons_zero, List.set_cons_succ]
                  refine wpAnyH_take (i := 5) (oi := { dst := some 91, op := Op.load 3 (Operand.tmp 90), type := 3, pos := "law.go:311", after := _, guard := none }) (v := ?_) rfl (by kernel_rfl) (by kernel_rfl) (by kernel_rfl) (fun _ _ _ h => h) (Or.inl ⟨by rfl, ?_⟩) (by assumption) ?_
                  rotate_left
                  · intro w hSw
                    (try dsimp only at hSw)
                    go_simp
                    try with_reducible rfl
                  try simp only [Act.put, List.setIfInBounds_toArray, List.set_cons_zero, List.set_cons_succ]
                  refine wpAnyH_take (i := 6) (oi := { dst := some 92, op := Op.binOp BinOp.eql 3 (Operand.tmp 89) (Operand.tmp 91) 3, type := 4, pos := "law.go:311", after := _, guard := none }) (v := ?_) rfl (by kernel_rfl) (by kernel_rfl) (by kernel_rfl) (fun _ _ _ h => h) (Or.inl ⟨by rfl, ?_⟩) (by assumption) ?_
                  rotate_left
                  · intro w hSw
                    (try dsimp only at hSw)
                    go_simp
                    try with_reducible rfl
                  try simp only [Act.put, List.setIfInBounds_toArray, List.set_cons_zero, List.set_cons_succ]
                  refine wpAnyH_take (i := 7) (oi := { dst := some 93, op := Op.move (Operand.tmp 92), type := 4, pos := "law.go:311", after := _, guard := none }) (v := ?_) rfl (by kernel_rfl) (by kernel_rfl) (by kernel_rfl) (fun _ _ _ h => h) (Or.inl ⟨by rfl, ?_⟩) (by assumption) ?_
                  rotate_left
                  · intro w hSw
                    (try dsimp only at hSw)
                    go_simp
                    try with_reducible rfl
                  try simp only [Act.put, List.setIfInBounds_toArray, List.set_cons_zero, List.set_cons_succ]
                  refine wpAnyH_take (i := 8) (oi := { dst := some 94, op := Op.move (Operand.tmp 6), type := 80, pos := "law.go:311", after := _, guard := some (7, true) }) (v := ?_) rfl (by kernel_rfl) (by kernel_rfl) (by kernel_rfl) (fun _ _ _ h => h) (Or.inl ⟨by rfl, ?_⟩) (by assumption) ?_
                  rotate_left
                  · intro w hSw
                    (try dsimp only at hSw)
                    go_simp
                    try with_reducible rfl
                  try simp only [Act.put, List.setIfInBounds_toArray, List.set_cons_zero, List.set_cons_succ]
                  refine wpAnyH_take (i := 9) (oi := { dst := some 95, op := Op.nilCheck (Operand.tmp 94), type := 0, pos := "law.go:311", after := _, guard := some (7, true) }) (v := ?_) rfl (by kernel_rfl) (by kernel_rfl) (by kernel_rfl) (fun _ _ _ h => h) (Or.inl ⟨by rfl, ?_⟩) (by assumption) ?_
                  rotate_left
                  · intro w hSw
                    (try dsimp only at hSw)
                    go_simp
                    try with_reducible rfl
                  try simp only [Act.put, List.setIfInBounds_toArray, List.set_cons_zero, List.set_cons_succ]
                  refine wpAnyH_take (i := 10) (oi := { dst := some 96, op := Op.fieldAddr 82 (Operand.tmp 95) 1, type := 0, pos := "law.go:311", after := _, guard := some (7, true) }) (v := ?_) rfl (by kernel_rfl) (by kernel_rfl) (by kernel_rfl) (fun _ _ _ h => h) (Or.inl ⟨by rfl, ?_⟩) (by assumption) ?_
                  rotate_left
                  · intro w hSw
                    (try dsimp only at hSw)
                    go_simp
                    try with_reducible rfl
                  try simp only [Act.put, List.setIfInBounds_toArray, List.set_cons_zero, List.set_cons_succ]
                  refine wpAnyH_take (i := 11) (oi := { dst := some 97, op := Op.load 3 (Operand.tmp 96), type := 3, pos := "law.go:311", after := _, guard := some (7, true) }) (v := ?_) rfl (by kernel_rfl) (by kernel_rfl) (by kernel_rfl) (fun _ _ _ h => h) (Or.inl ⟨by rfl, ?_⟩) (by assumption) ?_
                  rotate_left
                  · intro w hSw
                    (try dsimp only at hSw)
                    go_simp
                    try with_reducible rfl
                  try simp only [Act.put, List.setIfInBounds_toArray, List.set_cons_zero, List.set_cons_succ]
                  refine wpAnyH_take (i := 12) (oi := { dst := some 98, op := Op.fieldAddr 79 (Operand.tmp 8) 1, type := 0, pos := "law.go:311", after := _, guard := some (7, true) }) (v := ?_) rfl (by kernel_rfl) (by kernel_rfl) (by kernel_rfl) (fun _ _ _ h => h) (Or.inl ⟨by rfl, ?_⟩) (by assumption) ?_
                  rotate_left
                  · intro w hSw
                    (try dsimp only at hSw)
                    go_simp
                    try with_reducible rfl
                  try simp only [Act.put, List.setIfInBounds_toArray, List.set_cons_zero, List.set_cons_succ]
                  refine wpAnyH_take (i := 13) (oi := { dst := some 99, op := Op.load 3 (Operand.tmp 98), type := 3, pos := "law.go:311", after := _, guard := some (7, true) }) (v := ?_) rfl (by kernel_rfl) (by kernel_rfl) (by kernel_rfl) (fun _ _ _ h => h) (Or.inl ⟨by rfl, ?_⟩) (by assumption) ?_
                  rotate_left
                  · intro w hSw
                    (try dsimp only at hSw)
                    go_simp
                    try with_reducible rfl
                  try simp only [Act.put, List.setIfInBounds_toArray, List.set_cons_zero, List.set_cons_succ]
                  refine wpAnyH_take (i := 14) (oi := { dst := some 100, op := Op.binOp BinOp.eql 3 (Operand.tmp 97) (Operand.tmp 99) 3, type := 4, pos := "law.go:311", after := _, guard := some (7, true) }) (v := ?_) rfl (by kernel_rfl) (by kernel_rfl) (by kernel_rfl) (fun _ _ _ h => h) (Or.inl ⟨by rfl, ?_⟩) (by assumption) ?_
                  rotate_left
                  · intro w hSw
                    (try dsimp only at hSw)
                    go_simp
                    try with_reducible rfl
                  try simp only [Act.put, List.setIfInBounds_toArray, List.set_cons_zero, List.set_cons_succ]
                  refine wpAnyH_take (i := 15) (oi := { dst := some 101, op := Op.pick (Operand.tmp 93) (Operand.tmp 100) (Operand.const (Value.bool false)), type := 4, pos := "law.go:311", after := _, guard := none }) (v := ?_) rfl (by kernel_rfl) (by kernel_rfl) (by kernel_rfl) (fun _ _ _ h => h) (Or.inl ⟨by rfl, ?_⟩) (by assumption) ?_
                  rotate_left
                  · intro w hSw
                    (try dsimp only at hSw)
                    go_simp
                    try with_reducible rfl
                  try simp only [Act.put, List.setIfInBounds_toArray, List.set_cons_zero, List.set_cons_succ]
                  refine wpAnyH_done (by kernel_rfl) ?_ _
                  obtain ⟨w7, h7⟩ : ∃ w7, w6.drew = w7 := ⟨_, rfl⟩
                  rw [h7] at hHeld ⊢
                  obtain ⟨-, -, -, -, f2⟩ := hHeld
                  have hc7 : Chg w6 w7 (fun _ => False) := h7 ▸ (Chg.refl w6 _).drewN 1
                  have ho7 : Own W2.heap.size w7 (.slice p4 n4 c4) bb := vown_chg (vown_chg HO4.out HR6.out.cg fun k hk e => by have := vown_ge HO4.out k hk; have := HS2.out; omega) hc7 fun k hk e => e
                  have HC7 := hide hc7
                  have HO7 := hide ho7
                  have hn4c : (n4 : Int) ≤ 140737488351232 := by have := HN4.out; have := HDB.out; omega
                  have HN4C := hide hn4c
                  obtain ⟨T, hT⟩ : ∃ T : Nat → Prop, T = (fun k => W2.heap.size ≤ k ∧ k < w4.heap.size) := ⟨_, rfl⟩
                  have HTT := hide (show ∀ k, T k → W2.heap.size ≤ k ∧ k < w4.heap.size from fun k hk => by rw [hT] at hk; exact hk)
                  have HSTP := hide (show ∀ (V : World) (l' : List UInt8) (k : Nat), Chg w7 V T → l'.length = n4 → Own W2.heap.size V (.slice p4 n4 c4) l' → k < n4 → ∃ (gg : Nat) (y : UInt8), p4 = some ⟨gg, 0, none⟩ ∧ V.cell? ⟨gg, k, none⟩ = some (.int .u8 (y.toNat : Int)) ∧ V.frozen? ⟨gg, k, none⟩ = false ∧
                      Hid ((∃ l2 : List UInt8, l2.length = n4 ∧ Own W2.heap.size (V.setCell ⟨gg, k, none⟩ (.int .u8 (bits BinOp.xor IntKind.u8 (y.toNat : Int) 255))) (.slice p4 n4 c4) l2) ∧ Chg w7 (V.setCell ⟨gg, k, none⟩ (.int .u8 (bits BinOp.xor IntKind.u8 (y.toNat : Int) 255))) T) from fun V l' k hV hl' hO hk => by
                    obtain ⟨gg, y, e1, e2, e3, e4, l2, e5, e6⟩ := vown_set hO hk
                    have hlt := HO4.out.lt (by have := HN4.out; omega) gg (by rw [e1]; rfl)
                    refine ⟨gg, y, e1, e3, e4, hide ⟨⟨l2, by omega, e6⟩, hV.trans (chg_set V gg k _) fun i hi => ?_⟩⟩
                    rw [hi, hT]
                    exact .inl ⟨e2, hlt.2⟩)
                  have HC7T := hide (Chg.refl w7 T)
                  have HFIN := hide (show ∀ V, Chg w7 V T → (Tks w V w.heap.size (w.heap.size + 1) v1 (.slice pw nw cw) r.1 ∧ By V (.slice py ny cy) r.2.1 ∧ By V (.slice pz nz cz) r.2.1) ∧ V.cell? ⟨wr.heap.size, 0, none⟩ = some (.int .i64 ix) ∧ V.cell? ⟨wr.heap.size, 1, none⟩ = some (.int .i64 tm) from fun V hV => by
                    have hc6 := (HC7.out.mono' (S' := T) fun k hk => hk.elim).then hV fun i hi => .inl hi
                    have hrr := (hc6.block wr.heap.size (Array.getElem?_eq_some_iff.1 HR6R.out).1 (fun h => by have := HTT.out _ h; have := HS2.out; omega)).trans HR6R.out
                    exact ⟨HR6.out.at HTK.out.gl HTK.out.bel.size hc6 fun k hk => by have := HTT.out k hk; have := HS2.out; omega, by rw [cell_of_row V _ 0 _ _ (0, 0) hrr]; rfl, by rw [cell_of_row V _ 1 _ _ (0, 0) hrr]; rfl⟩)
                  have HEV : Hid (r.1.have_ ix tm = 0) := hide (by unfold It.have_; rw [if_neg (fun h => i2 h.2)])
                  clear hc7 ho7 hn4c h7 hT
                  go_wp2_with fail
                  go_loopw [17, 109] (fun _ i wr2 => ∃ k : Nat, k ≤ n4 ∧ i = .int .i64 k ∧ Hid ((∃ l' : List UInt8, l'.length = n4 ∧ Own W2.heap.size wr2 (.slice p4 n4 c4) l') ∧ Chg w7 wr2 T)) (fun _ i _ => n4 - (intOf i).toNat)
                  case atStart => exact ⟨0, Nat.zero_le _, rfl, hide ⟨⟨bb, HN4.out.symm, HO7.out⟩, HC7T.out⟩⟩
                  case round =>
                    obtain ⟨k, hk, rfl, hrel⟩ := hrel
                    obtain ⟨⟨l2, hl2, hO2⟩, hcT⟩ := hrel.out
                    by_cases hkn : (k : Int) < (n4 : Int)
                    · obtain ⟨gg, y, rfl, v5, v6, hnx⟩ := HSTP.out _ l2 k hcT hl2 hO2 (by omega)
                      have hk4 := HN4C.out
                      clear hO2 hcT hrel hl2
                      go_wp2
                      go_roundw
                      case rel => exact ⟨k + 1, by omega, by go_num, hnx⟩
                      case measure => simp [intOf]; omega
                    · obtain ⟨⟨hTF, hy, hz⟩, x0, x1⟩ := HFIN.out _ hcT
                      have HEQ := hide (equal_any hy hz)
                      rw [show ((r.2.1 == r.2.1) : Bool) = true from beq_self_eq_true _] at HEQ
                      have HHV := hide (vhave_any hTF.a ix tm)
                      rw [HEV.out] at HHV
                      have HTF := hide hTF
                      have hk5 : k = n4 := by omega
                      clear hO2 hcT hrel hl2 hTF hy hz
                      go_wp2_with (first | (go_at_call 39; refine HEQ.out.mono ?_; rintro e w8 ⟨rfl, rfl⟩) | (go_at_call 37; refine HHV.out.mono ?_; rintro e w9 ⟨rfl, rfl⟩))
                      go_roundw
                      case rel => exact ⟨j2 + 1, by omega, by go_num, hide ⟨_, _, _, HTF.out⟩⟩
                      case measure => simp [intOf]; omega
              · have g1 : (r.1.ix == ix) = false := by simpa using i1
                refine wp_region_held_drew (S := fun W => W.cell? ⟨wr.heap.size, 0, none⟩ = some (.int .i64 ix) ∧ W.cell? ⟨wr.heap.size, 1, none⟩ = some (.int .i64 tm) ∧ W.cell? ⟨w.heap.size + 1, 0, none⟩ = some (.int .i64 r.1.ix) ∧ W.cell? ⟨w.heap.size + 1, 1, none⟩ = some (.int .i64 r.1.tm) ∧ W.cell? ⟨w.heap.size + 1, 2, none⟩ = some (.slice pw nw cw)) (by kernel_rfl) ?_ (fun hHeld => ?_)
                · (try dsimp only)
                  exact ⟨d0, d1, c0, c1, c2⟩
                refine wpAnyH_take (i := 0) (oi := { dst := some 86, op := Op.move (Operand.tmp 6), type := 80, pos := "law.go:311", after := #[], guard := none }) (v := ?_) rfl (by kernel_rfl) (by kernel_rfl) (by kernel_rfl) (fun _ _ _ h => h) (Or.inl ⟨by rfl, ?_⟩) (by assumption) ?_
                rotate_left
                · intro w hSw
                  (try dsimp only at hSw)
                  go_simp
                  try with_reducible rfl
                try simp only [Act.put, List.setIfInBounds_toArray, List.set_cons_zero, List.set_cons_succ]
                refine wpAnyH_take (i := 1) (oi := { dst := some 87, op := Op.nilCheck (Operand.tmp 86), type := 0, pos := "law.go:311", after := _, guard := none }) (v := ?_) rfl (by kernel_rfl) (by kernel_rfl) (by kernel_rfl) (fun _ _ _ h => h) (Or.inl ⟨by rfl, ?_⟩) (by assumption) ?_
                rotate_left
                · intro w hSw
                  (try dsimp only at hSw)
                  go_simp
                  try with_reducible rfl
                try simp only [Act.put, List.setIfInBounds_toArray, List.set_cons_zero, List.set_cons_succ]
                refine wpAnyH_take (i := 2) (oi := { dst := some 88, op := Op.fieldAddr 82 (Operand.tmp 87) 0, type := 0, pos := "law.go:311", after := _, guard := none }) (v := ?_) rfl (by kernel_rfl) (by kernel_rfl) (by kernel_rfl) (fun _ _ _ h => h) (Or.inl ⟨by rfl, ?_⟩) (by assumption) ?_
                rotate_left
                · intro w hSw
                  (try dsimp only at hSw)
                  go_simp
                  try with_reducible rfl
                try simp only [Act.put, List.setIfInBounds_toArray, List.set_cons_zero, List.set_cons_succ]
                refine wpAnyH_take (i := 3) (oi := { dst := some 89, op := Op.load 3 (Operand.tmp 88), type := 3, pos := "law.go:311", after := _, guard := none }) (v := ?_) rfl (by kernel_rfl) (by kernel_rfl) (by kernel_rfl) (fun _ _ _ h => h) (Or.inl ⟨by rfl, ?_⟩) (by assumption) ?_
                rotate_left
                · intro w hSw
                  (try dsimp only at hSw)
                  go_simp
                  try with_reducible rfl
                try simp only [Act.put, List.setIfInBounds_toArray, List.set_cons_zero, List.set_cons_succ]
                refine wpAnyH_take (i := 4) (oi := { dst := some 90, op := Op.fieldAddr 79 (Operand.tmp 8) 0, type := 0, pos := "law.go:311", after := #[], guard := none }) (v := ?_) rfl (by kernel_rfl) (by kernel_rfl) (by kernel_rfl) (fun _ _ _ h => h) (Or.inl ⟨by rfl, ?_⟩) (by assumption) ?_
                rotate_left
                · intro w hSw
                  (try dsimp only at hSw)
                  go_simp
                  try with_reducible rfl
                try simp only [Act.put, List.setIfInBounds_toArray, List.set_cons_zero, List.set_cons_succ]
                refine wpAnyH_take (i := 5) (oi := { dst := some 91, op := Op.load 3 (Operand.tmp 90), type := 3, pos := "law.go:311", after := _, guard := none }) (v := ?_) rfl (by kernel_rfl) (by kernel_rfl) (by kernel_rfl) (fun _ _ _ h => h) (Or.inl ⟨by rfl, ?_⟩) (by assumption) ?_
                rotate_left
                · intro w hSw
                  (try dsimp only at hSw)
                  go_simp
                  try with_reducible rfl
                try simp only [Act.put, List.setIfInBounds_toArray, List.set_cons_zero, List.set_cons_succ]
                refine wpAnyH_take (i := 6) (oi := { dst := some 92, op := Op.binOp BinOp.eql 3 (Operand.tmp 89) (Operand.tmp 91) 3, type := 4, pos := "law.go:311", after := _, guard := none }) (v := ?_) rfl (by kernel_rfl) (by kernel_rfl) (by kernel_rfl) (fun _ _ _ h => h) (Or.inl ⟨by rfl, ?_⟩) (by assumption) ?_
                rotate_left
                · intro w hSw
                  (try dsimp only at hSw)
                  go_simp
                  try with_reducible rfl
                try simp only [Act.put, List.setIfInBounds_toArray, List.set_cons_zero, List.set_cons_succ]
                refine wpAnyH_take (i := 7) (oi := { dst := some 93, op := Op.move (Operand.tmp 92), type := 4, pos := "law.go:311", after := _, guard := none }) (v := ?_) rfl (by kernel_rfl) (by kernel_rfl) (by kernel_rfl) (fun _ _ _ h => h) (Or.inl ⟨by rfl, ?_⟩) (by assumption) ?_
                rotate_left
                · intro w hSw
                  (try dsimp only at hSw)
                  go_simp
                  try with_reducible rfl
                try simp only [Act.put, List.setIfInBounds_toArray, List.set_cons_zero, List.set_cons_succ]
                refine wpAnyH_take (i := 8) (oi := { dst := some 94, op := Op.move (Operand.tmp 6), type := 80, pos := "law.go:311", after := _, guard := some (7, true) }) (v := undef) rfl (by kernel_rfl) (by kernel_rfl) (by kernel_rfl) (fun _ _ _ h => h) (Or.inr ⟨by rfl, rfl⟩) (by assumption) ?_
                try simp only [Act.put, List.setIfInBounds_toArray, List.set_cons_zero, List.set_cons_succ]
                refine wpAnyH_take (i := 9) (oi := { dst := some 95, op := Op.nilCheck (Operand.tmp 94), type := 0, pos := "law.go:311", after := _, guard := some (7, true) }) (v := undef) rfl (by kernel_rfl) (by kernel_rfl) (by kernel_rfl) (fun _ _ _ h => h) (Or.inr ⟨by rfl, rfl⟩) (by assumption) ?_
                try simp only [Act.put, List.setIfInBounds_toArray, List.set_cons_zero, List.set_cons_succ]
                refine wpAnyH_take (i := 10) (oi := { dst := some 96, op := Op.fieldAddr 82 (Operand.tmp 95) 1, type := 0, pos := "law.go:311", after := _, guard := some (7, true) }) (v := undef) rfl (by kernel_rfl) (by kernel_rfl) (by kernel_rfl) (fun _ _ _ h => h) (Or.inr ⟨by rfl, rfl⟩) (by assumption) ?_
                try simp only [Act.put, List.setIfInBounds_toArray, List.set_cons_zero, List.set_cons_succ]
                refine wpAnyH_take (i := 11) (oi := { dst := some 97, op := Op.load 3 (Operand.tmp 96), type := 3, pos := "law.go:311", after := _, guard := some (7, true) }) (v := undef) rfl (by kernel_rfl) (by kernel_rfl) (by kernel_rfl) (fun _ _ _ h => h) (Or.inr ⟨by rfl, rfl⟩) (by assumption) ?_
                try simp only [Act.put, List.setIfInBounds_toArray, List.set_cons_zero, List.set_cons_succ]
                refine wpAnyH_take (i := 12) (oi := { dst := some 98, op := Op.fieldAddr 79 (Operand.tmp 8) 1, type := 0, pos := "law.go:311", after := _, guard := some (7, true) }) (v := undef) rfl (by kernel_rfl) (by kernel_rfl) (by kernel_rfl) (fun _ _ _ h => h) (Or.inr ⟨by rfl, rfl⟩) (by assumption) ?_
                try simp only [Act.put, List.setIfInBounds_toArray, List.set_cons_zero, List.set_cons_succ]
                refine wpAnyH_take (i := 13) (oi := { dst := some 99, op := Op.load 3 (Operand.tmp 98), type := 3, pos := "law.go:311", after := _, guard := some (7, true) }) (v := undef) rfl (by kernel_rfl) (by kernel_rfl) (by kernel_rfl) (fun _ _ _ h => h) (Or.inr ⟨by rfl, rfl⟩) (by assumption) ?_
                try simp only [Act.put, List.setIfInBounds_toArray, List.set_cons_zero, List.set_cons_succ]
                refine wpAnyH_take (i := 14) (oi := { dst := some 100, op := Op.binOp BinOp.eql 3 (Operand.tmp 97) (Operand.tmp 99) 3, type := 4, pos := "law.go:311", after := _, guard := some (7, true) }) (v := undef) rfl (by kernel_rfl) (by kernel_rfl) (by kernel_rfl) (fun _ _ _ h => h) (Or.inr ⟨by rfl, rfl⟩) (by assumption) ?_
                try simp only [Act.put, List.setIfInBounds_toArray, List.set_cons_zero, List.set_cons_succ]
                refine wpAnyH_take (i := 15) (oi := { dst := some 101, op := Op.pick (Operand.tmp 93) (Operand.tmp 100) (Operand.const (Value.bool false)), type := 4, pos := "law.go:311", after := _, guard := none }) (v := ?_) rfl (by kernel_rfl) (by kernel_rfl) (by kernel_rfl) (fun _ _ _ h => h) (Or.inl ⟨by rfl, ?_⟩) (by assumption) ?_
                rotate_left
                · intro w hSw
                  (try dsimp only at hSw)
                  go_simp
                  try with_reducible rfl
                try simp only [Act.put, List.setIfInBounds_toArray, List.set_cons_zero, List.set_cons_succ]
                refine wpAnyH_done (by kernel_rfl) ?_ _
                obtain ⟨w7, h7⟩ : ∃ w7, w6.drew = w7 := ⟨_, rfl⟩
                rw [h7] at hHeld ⊢
                obtain ⟨-, -, -, -, f2⟩ := hHeld
                have hc7 : Chg w6 w7 (fun _ => False) := h7 ▸ (Chg.refl w6 _).drewN 1
                have ho7 : Own W2.heap.size w7 (.slice p4 n4 c4) bb := vown_chg (vown_chg HO4.out HR6.out.cg fun k hk e => by have := vown_ge HO4.out k hk; have := HS2.out; omega) hc7 fun k hk e => e
                have HC7 := hide hc7
                have HO7 := hide ho7
                have hn4c : (n4 : Int) ≤ 140737488351232 := by have := HN4.out; have := HDB.out; omega
                have HN4C := hide hn4c
                obtain ⟨T, hT⟩ : ∃ T : Nat → Prop, T = (fun k => W2.heap.size ≤ k ∧ k < w4.heap.size) := ⟨_, rfl⟩
                have HTT := hide (show ∀ k, T k → W2.heap.size ≤ k ∧ k < w4.heap.size from fun k hk => by rw [hT] at hk; exact hk)
                have HSTP := hide (show ∀ (V : World) (l' : List UInt8) (k : Nat), Chg w7 V T → l'.length = n4 → Own W2.heap.size V (.slice p4 n4 c4) l' → k < n4 → ∃ (gg : Nat) (y : UInt8), p4 = some ⟨gg, 0, none⟩ ∧ V.cell? ⟨gg, k, none⟩ = some (.int .u8 (y.toNat : Int)) ∧ V.frozen? ⟨gg, k, none⟩ = false ∧
                    Hid ((∃ l2 : List UInt8, l2.length = n4 ∧ Own W2.heap.size (V.setCell ⟨gg, k, none⟩ (.int .u8 (bits BinOp.xor IntKind.u8 (y.toNat : Int) 255))) (.slice p4 n4 c4) l2) ∧ Chg w7 (V.setCell ⟨gg, k, none⟩ (.int .u8 (bits BinOp.xor IntKind.u8 (y.toNat : Int) 255))) T) from fun V l' k hV hl' hO hk => by
                  obtain ⟨gg, y, e1, e2, e3, e4, l2, e5, e6⟩ := vown_set hO hk
                  have hlt := HO4.out.lt (by have := HN4.out; omega) gg (by rw [e1]; rfl)
                  refine ⟨gg, y, e1, e3, e4, hide ⟨⟨l2, by omega, e6⟩, hV.trans (chg_set V gg k _) fun i hi => ?_⟩⟩
                  rw [hi, hT]
                  exact .inl ⟨e2, hlt.2⟩)
                have HC7T := hide (Chg.refl w7 T)
                have HFIN := hide (show ∀ V, Chg w7 V T → (Tks w V w.heap.size (w.heap.size + 1) v1 (.slice pw nw cw) r.1 ∧ By V (.slice py ny cy) r.2.1 ∧ By V (.slice pz nz cz) r.2.1) ∧ V.cell? ⟨wr.heap.size, 0, none⟩ = some (.int .i64 ix) ∧ V.cell? ⟨wr.heap.size, 1, none⟩ = some (.int .i64 tm) from fun V hV => by
                  have hc6 := (HC7.out.mono' (S' := T) fun k hk => hk.elim).then hV fun i hi => .inl hi
                  have hrr := (hc6.block wr.heap.size (Array.getElem?_eq_some_iff.1 HR6R.out).1 (fun h => by have := HTT.out _ h; have := HS2.out; omega)).trans HR6R.out
                  exact ⟨HR6.out.at HTK.out.gl HTK.out.bel.size hc6 fun k hk => by have := HTT.out k hk; have := HS2.out; omega, by rw [cell_of_row V _ 0 _ _ (0, 0) hrr]; rfl, by rw [cell_of_row V _ 1 _ _ (0, 0) hrr]; rfl⟩)
                have HEV : Hid (r.1.have_ ix tm = 0) := hide (by unfold It.have_; rw [if_neg (fun h => i1 h.1)])
                clear hc7 ho7 hn4c h7 hT
                go_wp2_with fail
                go_loopw [17, 109] (fun _ i wr2 => ∃ k : Nat, k ≤ n4 ∧ i = .int .i64 k ∧ Hid ((∃ l' : List UInt8, l'.length = n4 ∧ Own W2.heap.size wr2 (.slice p4 n4 c4) l') ∧ Chg w7 wr2 T)) (fun _ i _ => n4 - (intOf i).toNat)
                case atStart => exact ⟨0, Nat.zero_le _, rfl, hide ⟨⟨bb, HN4.out.symm, HO7.out⟩, HC7T.out⟩⟩
                case round =>
                  obtain ⟨k, hk, rfl, hrel⟩ := hrel
                  obtain ⟨⟨l2, hl2, hO2⟩, hcT⟩ := hrel.out
                  by_cases hkn : (k : Int) < (n4 : Int)
                  · obtain ⟨gg, y, rfl, v5, v6, hnx⟩ := HSTP.out _ l2 k hcT hl2 hO2 (by omega)
                    have hk4 := HN4C.out
                    clear hO2 hcT hrel hl2
                    go_wp2
                    go_roundw
                    case rel => exact ⟨k + 1, by omega, by go_num, hnx⟩
                    case measure => simp [intOf]; omega
                  · obtain ⟨⟨hTF, hy, hz⟩, x0, x1⟩ := HFIN.out _ hcT
                    have HEQ := hide (equal_any hy hz)
                    rw [show ((r.2.1 == r.2.1) : Bool) = true from beq_self_eq_true _] at HEQ
                    have HHV := hide (vhave_any hTF.a ix tm)
                    rw [HEV.out] at HHV
                    have HTF := hide hTF
                    have hk5 : k = n4 := by omega
                    clear hO2 hcT hrel hl2 hTF hy hz
                    go_wp2_with (first | (go_at_call 39; refine HEQ.out.mono ?_; rintro e w8 ⟨rfl, rfl⟩) | (go_at_call 37; refine HHV.out.mono ?_; rintro e w9 ⟨rfl, rfl⟩))
                    go_roundw
                    case rel => exact ⟨j2 + 1, by omega, by go_num, hide ⟨_, _, _, HTF.out⟩⟩
                    case measure => simp [intOf]; omega
            · have HB := hide HTK.out.bel
              go_wp2_with (go_at_call 12; refine (HAW.out _ HB.out).mono ?_; rintro e w2 ⟨rfl, hb2⟩)
              go_ret
              exact ⟨rfl, HB.out.trans (hb2.mono HB.out.size)⟩
end Go.Proofs.YtgbdjcekpdfpjaaGreatDoor
