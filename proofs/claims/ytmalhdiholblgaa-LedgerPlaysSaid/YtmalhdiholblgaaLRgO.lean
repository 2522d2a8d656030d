/- The document's ledger, its row the call's own, its data an argument's. -/
import Derived.Test.YtmalhdiholblgaaLWh2
namespace Go.Proofs.Ytmalhdiholblgaa
set_option linter.unusedVariables false
set_option linter.unusedSimpArgs false
open Go.RowKit

/-- A ledger of the document's, from B on; its entries' data lies in memory of w0. -/
structure RgOwn (w0 : World) (B : Nat) (w : World) (g : Nat) (x : Lg) : Prop where
  hB : B ≤ g
  c0 : w.cell? ⟨g, 0, none⟩ = some (.int .i64 x.ix)
  c1 : w.cell? ⟨g, 1, none⟩ = some (.int .i64 x.tm)
  c2 : ∃ p n c E, w.cell? ⟨g, 2, none⟩ = some (.slice p n c) ∧ OwnE B w (.slice p n c) E ∧ Dat w0 E x.l ∧ (Value.slice p n c).ownBlock ≠ some g
  fr : ∀ i, i < 3 → w.frozen? ⟨g, i, none⟩ = false
  ok : x.Ok
  few : x.l.length ≤ 100000
theorem RgOwn.is {w0 : World} {B : Nat} {w : World} {g : Nat} {x : Lg} (h : RgOwn w0 B w g x) (hb : Below w0.heap.size w0 w) : RgIs w g x := by
  obtain ⟨p, n, c, E, h1, h2, h3, _⟩ := h.c2
  have hn := h2.ecs.len.1
  rw [h3.1] at hn
  subst hn
  exact ⟨h.c0, h.c1, ⟨p, c, h1, E, h2.ecs, h3.below hb⟩, h.ok, h.few⟩
theorem RgOwn.below {w0 : World} {B : Nat} {w w' : World} {g : Nat} {x : Lg} (h : RgOwn w0 B w g x) (hb : Below w.heap.size w w') : RgOwn w0 B w' g x := by
  have hg : g < w.heap.size := lt_of_cell h.c0
  obtain ⟨p, n, c, E, h1, h2, h3, h4⟩ := h.c2
  exact ⟨h.hB, (hb.cell (lt_of_cell h.c0)).trans h.c0, (hb.cell (lt_of_cell h.c1)).trans h.c1, ⟨p, n, c, E, (hb.cell (lt_of_cell h1)).trans h1, h2.below hb, h3, h4⟩,
    fun i hi => (hb.frozen (p := ⟨g, i, none⟩) hg).trans (h.fr i hi), h.ok, h.few⟩
theorem RgOwn.window {w0 : World} {B : Nat} {w w' : World} {g : Nat} {x : Lg} (h : RgOwn w0 B w g x) (hk : ∀ k, B ≤ k → k < w.heap.size → w'.heap[k]? = w.heap[k]?) : RgOwn w0 B w' g x := by
  have hg : g < w.heap.size := lt_of_cell h.c0
  have hgb := hk g h.hB hg
  have hcell : ∀ {k i : Nat} {u : Value}, B ≤ k → w.cell? ⟨k, i, none⟩ = some u → w'.cell? ⟨k, i, none⟩ = some u := fun {k i u} hB hc => (World.cell?_of_block (hk k hB (lt_of_cell hc))).trans hc
  obtain ⟨p, n, c, E, h1, h2, h3, h4⟩ := h.c2
  refine ⟨h.hB, hcell h.hB h.c0, hcell h.hB h.c1, ⟨p, n, c, E, hcell h.hB h1, ?_, h3, h4⟩, fun i hi => ?_, h.ok, h.few⟩
  · obtain ⟨hl, ⟨e, h0⟩ | ⟨g', cap, cur, e, hB, hh, hr2⟩⟩ := h2
    · exact ⟨hl, .inl ⟨e, h0⟩⟩
    · exact ⟨hl, .inr ⟨g', cap, cur, e, hB, (hk g' hB (Array.getElem?_eq_some_iff.1 hh).1).trans hh, hr2⟩⟩
  · rw [← h.fr i hi]
    unfold World.frozen?
    simp only [hgb]
theorem RgOwn.mono {w0 : World} {B B' : Nat} {w : World} {g : Nat} {x : Lg} (h : RgOwn w0 B w g x) (hB : B' ≤ B) : RgOwn w0 B' w g x := by
  obtain ⟨p, n, c, E, h1, h2, h3⟩ := h.c2
  exact ⟨Nat.le_trans hB h.hB, h.c0, h.c1, ⟨p, n, c, E, h1, h2.mono hB, h3⟩, h.fr, h.ok, h.few⟩
def RNewF (w0 : World) (q : Bool) (w : World) (ix tm : Int) (L : List En) (e : Ending) (w' : World) : Prop :=
  Below w.heap.size w w' ∧ (if q = true then ∃ g, e = .returned (.tuple #[.pointer (some ⟨g, 0, none⟩), .int .i64 0]) ∧ RgOwn w0 w.heap.size w' g ⟨ix, tm, L⟩ else e = .returned (.tuple #[.pointer none, .int .i64 110]))

set_option maxRecDepth 200000 in
set_option maxHeartbeats 4000000 in
theorem refNewF_any {w0 w : World} {ix tm : Int} {v : Value} {L : List En} (hv0 : Ens w0 v L) (hb0 : Below w0.heap.size w0 w) (hix : fits ix) (h9 : L.length ≤ 100000) : Calls Try.prog 23 #[.int .i64 ix, .int .i64 tm, v] w (RNewF w0 (good ix tm && goOn ix tm L) w ix tm L) := by
  rw [good_goOn]
  obtain ⟨p, n, c, rfl⟩ := hv0.sl
  have hv := hv0.below hb0
  have HG := hide (refGood_any (w := w) ix tm)
  have HR := hide (refRises_any hv hix h9 (tm := tm))
  have HV0 := hide hv0
  have HB0 := hide hb0
  have H9 := hide h9
  have HQQ : Hid (good ix tm = true → rises ix tm L = true → (Lg.mk ix tm L).Ok) := hide fun a b => ⟨a, by rw [goOn_rises (good_le a).2.1]; exact b⟩
  obtain ⟨q1, hq1⟩ : ∃ q, good ix tm = q := ⟨_, rfl⟩
  obtain ⟨q2, hq2⟩ : ∃ q, rises ix tm L = q := ⟨_, rfl⟩
  rw [hq1] at HG HQQ
  rw [hq2] at HR HQQ
  rw [hq1, hq2]
  clear hq1 hq2 hv h9 hix hv0 hb0
  go_enter Try.func23, Try.ntmps23
  go_wp2_with fail
  refine HG.out.mono ?_
  rintro e w9 ⟨rfl, rfl⟩
  cases q1
  · go_wp2
    go_ret2
    exact ⟨Below.refl _ _, rfl⟩
  · go_wp2_with fail
    refine HR.out.mono ?_
    rintro e w2 ⟨rfl, hb2⟩
    have HB2 := hide hb2
    clear hb2
    cases q2
    · go_wp2
      go_ret2
      exact ⟨HB2.out, rfl⟩
    · have bE := (Below.refl w2.heap.size w2).alloc (Nat.le_refl _) (.cells #[] 48)
      have oE : OwnE w2.heap.size (w2.alloc (.cells #[] 48)) (.slice (some ⟨w2.heap.size, 0, none⟩) 0 0) [] := World.ownsRow_lit w2 #[] 0 (Nat.le_refl _) (by decide) rfl
      obtain ⟨E, hE0, hD⟩ := HV0.out
      have hE := (hE0.below HB0.out).below HB2.out
      have HEE := hide (hE.below bE)
      have HD0 := hide hD
      have HOE := hide oE
      have HBE := hide bE
      have HEL : Hid (E.length ≤ 100000) := hide (by rw [hD.1]; exact H9.out)
      clear bE oE hE hD hE0
      go_wp2_with (at_builtin; go_loud (refine wpList_pushesE (v := .slice (some ⟨w2.heap.size, 0, none⟩) 0 0) (u := .slice p n c) (l := []) (m := E) (B := w2.heap.size) rfl (.tmp 21) (.tmp 22) rfl rfl rfl rfl HOE.out HEE.out HBE.out.size (by have := HEL.out; simp; omega) ?_); intro v4 w4 ho4 hb4 hg4; rw [List.nil_append] at ho4; obtain ⟨p4, n4, c4, rfl⟩ := ho4.ecs.sl; have HO4 := hide ho4; have HB4 := hide (HBE.out.trans hb4); clear ho4 hb4 hg4)
      have bZ : Below w4.heap.size w4 (w4.alloc (.cells #[.int .i64 ix, .int .i64 tm, .slice p4 n4 c4] 69)) := (Below.refl _ _).alloc (Nat.le_refl _) _
      have hcs : ∀ i u, #[Value.int .i64 ix, .int .i64 tm, .slice p4 n4 c4][i]? = some u → (w4.alloc (.cells #[.int .i64 ix, .int .i64 tm, .slice p4 n4 c4] 69)).cell? ⟨w4.heap.size, i, none⟩ = some u := fun i u h => by
        rw [cell_of_row _ w4.heap.size _ _ _ (0, 0) (heap_alloc_new w4 _)]
        exact h
      have hsz : w.heap.size ≤ w2.heap.size := HB2.out.size
      have HL : Hid (RgOwn w0 w.heap.size (w4.alloc (.cells #[.int .i64 ix, .int .i64 tm, .slice p4 n4 c4] 69)) w4.heap.size ⟨ix, tm, L⟩) := hide ⟨by have := HB4.out.size; omega, hcs 0 _ rfl, hcs 1 _ rfl, ⟨p4, n4, c4, E, hcs 2 _ rfl, (HO4.out.below bZ).mono hsz, HD0.out, fun e => by have := (HO4.out.lt _ e).2; omega⟩, fun i _ => by rw [frozen?_alloc_cells]; simp [World.frozen?], HQQ.out trivial trivial, H9.out⟩
      have HBZ : Hid (Below w.heap.size w (w4.alloc (.cells #[.int .i64 ix, .int .i64 tm, .slice p4 n4 c4] 69))) := hide ((HB2.out.trans (HB4.out.mono HB2.out.size)).alloc (by have := HB2.out.size; have := HB4.out.size; omega) _)
      clear bZ hcs
      go_wp2
      go_ret2
      exact ⟨HBZ.out, _, rfl, HL.out⟩
end Go.Proofs.Ytmalhdiholblgaa
