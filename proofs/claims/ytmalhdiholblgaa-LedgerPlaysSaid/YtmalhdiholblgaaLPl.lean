/- A ledger and the document's, side by side. -/
import Derived.Test.YtmalhdiholblgaaLShort
namespace Go.Proofs.Ytmalhdiholblgaa
set_option linter.unusedVariables false
set_option linter.unusedSimpArgs false
open Go.RowKit

theorem Rb.same {w w' : World} {g k : Nat} (h : w'.heap[g]? = w.heap[g]?) : Rb w' g k ↔ Rb w g k := by
  have hc : w'.cell? ⟨g, 2, none⟩ = w.cell? ⟨g, 2, none⟩ := by unfold World.cell?; simp only [h]
  unfold Rb
  rw [hc]
theorem RgOwn.rb_lt {w0 : World} {B : Nat} {w : World} {g : Nat} {x : Lg} (h : RgOwn w0 B w g x) {k : Nat} (hk : Rb w g k) : B ≤ k ∧ k < w.heap.size := by
  obtain ⟨p, n, c, E, h1, h2, _⟩ := h.c2
  obtain ⟨p', n', c', h1', hk⟩ := hk
  rw [h1] at h1'
  injection h1' with h1'
  rw [← h1'] at hk
  exact h2.lt k hk
theorem RgOwn.chg {w0 : World} {B : Nat} {w w' : World} {g : Nat} {x : Lg} {S : Nat → Prop} (h : RgOwn w0 B w g x) (hc : Chg w w' S) (hn : ∀ k, (k = g ∨ Rb w g k) → ¬ S k) : RgOwn w0 B w' g x := by
  have hg : g < w.heap.size := lt_of_cell h.c0
  have hgb := hc.block g hg (hn g (.inl rfl))
  have hcell : ∀ {i : Nat} {u : Value}, w.cell? ⟨g, i, none⟩ = some u → w'.cell? ⟨g, i, none⟩ = some u := fun {i u} h1 => (World.cell?_of_block (a := ⟨g, i, none⟩) hgb).trans h1
  obtain ⟨p, n, c, E, h1, h2, h3, h4⟩ := h.c2
  refine ⟨h.hB, hcell h.c0, hcell h.c1, ⟨p, n, c, E, hcell h1, ?_, h3, h4⟩, fun i hi => ?_, h.ok, h.few⟩
  · obtain ⟨hl, ⟨e, h0⟩ | ⟨g', cap, cur, e, hB, hh, hr2⟩⟩ := h2
    · exact ⟨hl, .inl ⟨e, h0⟩⟩
    · refine ⟨hl, .inr ⟨g', cap, cur, e, hB, (hc.block g' (Array.getElem?_eq_some_iff.1 hh).1 (hn g' (.inr ⟨p, n, c, h1, ?_⟩))).trans hh, hr2⟩⟩
      rw [e]
      rfl
  · rw [← h.fr i hi]
    unfold World.frozen?
    simp only [hgb]
/-- A ledger's own as one avoids a block: nothing of it changes when that block does. -/
theorem LgOwn.chg1 {B : Nat} {w w' : World} {g A : Nat} {x : Lg} (h : LgOwn B w g x) (hc : Chg w w' (fun k => k = A)) (ha : Av w g A) : LgOwn B w' g x ∧ Av w' g A := by
  obtain ⟨p, n, c, E, hr⟩ := h.row
  obtain ⟨hgA, p1, n1, c1, E1, k2, hE1, hne1, hd1⟩ := ha
  have e1 := hr.c2.symm.trans k2
  injection e1 with e1
  rw [← e1] at hE1 hne1 k2
  obtain rfl := hr.own.ecs.one hE1
  have hg : g < w.heap.size := lt_of_cell h.c0
  have hgb := hc.block g hg hgA
  have hcell : ∀ {i : Nat} {u : Value}, w.cell? ⟨g, i, none⟩ = some u → w'.cell? ⟨g, i, none⟩ = some u := fun {i u} h1 => (World.cell?_of_block (a := ⟨g, i, none⟩) hgb).trans h1
  have hE : OwnE B w' (.slice p n c) E := by
    obtain ⟨hl, ⟨e, h0⟩ | ⟨g', cap, cur, e, hB, hh, hr2⟩⟩ := hr.own
    · exact ⟨hl, .inl ⟨e, h0⟩⟩
    · refine ⟨hl, .inr ⟨g', cap, cur, e, hB, (hc.block g' (Array.getElem?_eq_some_iff.1 hh).1 (fun e9 => hne1 ?_)).trans hh, hr2⟩⟩
      rw [e, ← e9]
      rfl
  have hD : DatO B w' (.slice p n c) E x.l := ⟨hr.dat.1, fun k e y h1 h2 => by
    obtain ⟨a, b, ho, f, d⟩ := hr.dat.2 k e y h1 h2
    refine ⟨a, b, ?_, f, d⟩
    rcases ho with ⟨e1, e2⟩ | ⟨gb, cb, e1, hB, hl, hm, hcc, hs2, hf⟩
    · exact .inl ⟨e1, e2⟩
    · by_cases h0 : cb = 0
      · subst h0
        exact .inr ⟨gb, 0, e1, hB, hl, hm, fun i y hy => by have := (List.getElem?_eq_some_iff.1 hy).1; omega, fun i hi => by omega, fun i hi => by omega⟩
      · obtain ⟨u, hu⟩ := Option.isSome_iff_exists.1 (hs2 0 (by omega))
        have hbb := hc.block gb (lt_of_cell hu) (fun e9 => by
          injection e1 with q1 q2 q3
          rcases hd1 e (List.mem_of_getElem? h1) with h5 | h5
          · omega
          · refine h5 ?_
            rw [q1, ← e9]
            rfl)
        have q1 : ∀ i, w'.cell? ⟨gb, i, none⟩ = w.cell? ⟨gb, i, none⟩ := fun i => by unfold World.cell?; simp only [hbb]
        have q2 : ∀ i, w'.frozen? ⟨gb, i, none⟩ = w.frozen? ⟨gb, i, none⟩ := fun i => by unfold World.frozen?; simp only [hbb]
        exact .inr ⟨gb, cb, e1, hB, hl, hm, fun i y hy => by rw [q1]; exact hcc i y hy, fun i hi => by rw [q1]; exact hs2 i hi, fun i hi => by rw [q2]; exact hf i hi⟩⟩
  refine ⟨⟨h.hB, hcell h.c0, hcell h.c1, ⟨p, n, c, E, hcell hr.c2, hE, hD, hr.ne, hr.nd⟩, hcell h.c3, fun i hi => ?_, h.ok, h.few⟩, hgA, p, n, c, E, hcell hr.c2, hE.ecs, hne1, hd1⟩
  rw [← h.fr i hi]
  unfold World.frozen?
  simp only [hgb]
theorem LgOwn.av_base {T : Nat} {w : World} {g A : Nat} {x : Lg} (h : LgOwn T w g x) (hA : A < T) : Av w g A := by
  obtain ⟨p, n, c, E, hr⟩ := h.row
  refine ⟨by have := h.hB; omega, p, n, c, E, hr.c2, hr.own.ecs, fun e => ?_, fun e he => ?_⟩
  · have := (hr.own.lt _ e).1
    omega
  · rcases hr.dat.far he with h0 | ⟨k, hk, h1, _⟩
    · exact .inl h0
    · refine .inr fun e2 => ?_
      rw [hk] at e2
      injection e2 with e2
      omega
theorem LgOwn.av_old {B : Nat} {w w' : World} {g A : Nat} {x : Lg} (h : LgOwn B w g x) (hb : Below w.heap.size w w') (hA : w.heap.size ≤ A) : Av w' g A := by
  obtain ⟨p, n, c, E, hr⟩ := h.row
  have hr' := hr.below hb
  refine ⟨by have : g < w.heap.size := lt_of_cell h.c0; omega, p, n, c, E, hr'.c2, hr'.own.ecs, fun e => ?_, fun e he => ?_⟩
  · have := (hr.own.lt _ e).2
    omega
  · rcases hr.dat.far he with h0 | ⟨k, hk, _, h1⟩
    · exact .inl h0
    · refine .inr fun e2 => ?_
      rw [hk] at e2
      injection e2 with e2
      omega
/-- Both, apart from one another. -/
structure Pl (w0 : World) (B : Nat) (w : World) (gl gx : Nat) (xl xx : Lg) : Prop where
  l : LgOwn B w gl xl
  x : RgOwn w0 B w gx xx
  av : Av w gl gx
  ne : ∀ k, Rb w gx k → k ≠ gl ∧ ¬ Rb w gl k
  b0 : Below w0.heap.size w0 w
  hB : w0.heap.size ≤ B
theorem Pl.below {w0 : World} {B : Nat} {w w' : World} {gl gx : Nat} {xl xx : Lg} (h : Pl w0 B w gl gx xl xx) (hb : Below w.heap.size w w') : Pl w0 B w' gl gx xl xx := by
  have hx : gx < w.heap.size := lt_of_cell h.x.c0
  have hl : gl < w.heap.size := lt_of_cell h.l.c0
  exact ⟨h.l.below hb, h.x.below hb, h.av.below hb, fun k hk => by
    rw [Rb.same (hb.block gx hx)] at hk
    rw [Rb.same (hb.block gl hl)]
    exact h.ne k hk, h.b0.trans (hb.mono h.b0.size), h.hB⟩
theorem Pl.not_gx {w0 : World} {B : Nat} {w : World} {gl gx : Nat} {xl xx : Lg} (h : Pl w0 B w gl gx xl xx) : ∀ k, (k = gx ∨ Rb w gx k) → ¬ (k = gl ∨ Rb w gl k) := fun k hk hn => by
  rcases hk with rfl | hk
  · obtain ⟨hgA, p1, n1, c1, E1, k2, _, hne1, _⟩ := h.av
    rcases hn with rfl | ⟨p, n, c, k2', hb⟩
    · exact hgA rfl
    · rw [k2] at k2'
      injection k2' with k2'
      rw [← k2'] at hb
      exact hne1 hb
  · obtain ⟨h1, h2⟩ := h.ne k hk
    rcases hn with hn | hn
    · exact h1 hn
    · exact h2 hn
theorem Pl.gx_same {w0 : World} {B : Nat} {w w' : World} {gl gx : Nat} {xl xx : Lg} (h : Pl w0 B w gl gx xl xx) (hf : Fr gl w w') : w'.heap[gx]? = w.heap[gx]? := hf.chg.block gx (lt_of_cell h.x.c0) (h.not_gx gx (.inl rfl))
theorem Pl.lcall {w0 : World} {B : Nat} {w w' : World} {gl gx : Nat} {xl xx y : Lg} (h : Pl w0 B w gl gx xl xx) (hf : Fr gl w w') (hl : LgOwn B w' gl y) : Pl w0 B w' gl gx y xx := by
  have hx : gx < w.heap.size := lt_of_cell h.x.c0
  refine ⟨hl, h.x.chg hf.chg h.not_gx, hf.av gx hx h.av, fun k hk => ?_, h.b0.trans ((h.l.fr_below hf).mono h.hB), h.hB⟩
  rw [Rb.same (h.gx_same hf)] at hk
  refine ⟨(h.ne k hk).1, fun hn => ?_⟩
  rcases hf.row k hn with h1 | h1
  · exact (h.ne k hk).2 h1
  · have := (h.x.rb_lt hk).2
    omega
theorem Pl.gcall {w0 : World} {B : Nat} {w w' : World} {gl gx : Nat} {xl xx y : Lg} (h : Pl w0 B w gl gx xl xx) (hg : RgOwn w0 B w' gx y) (hc : Chg w w' (fun k => k = gx)) (hrow : ∀ k, Rb w' gx k → Rb w gx k ∨ w.heap.size ≤ k) : Pl w0 B w' gl gx xl y := by
  obtain ⟨h1, h2⟩ := h.l.chg1 hc h.av
  have hgl : gl < w.heap.size := lt_of_cell h.l.c0
  have hbl := hc.block gl hgl h.av.1
  refine ⟨h1, hg, h2, fun k hk => ?_, Chg.to_below h.b0 hc fun k hk => by subst hk; exact Nat.le_trans h.hB h.x.hB, h.hB⟩
  rw [Rb.same hbl]
  rcases hrow k hk with h3 | h3
  · exact h.ne k h3
  · exact ⟨by omega, fun hn => by have := (h.l.rb_lt (.inr hn)).2; omega⟩
theorem Pl.tells {w0 : World} {B : Nat} {w : World} {gl gx : Nat} {x : Lg} (h : Pl w0 B w gl gx x x) (h9 : x.l.length ≤ 12000) : Calls Try.prog 20 #[.pointer (some ⟨gl, 0, none⟩), .pointer (some ⟨gx, 0, none⟩)] w fun e w' => e = .returned (.bool true) ∧ Below w.heap.size w w' :=
  tells_any h.l.is (h.x.is h.b0) h9
/-- A clone that goes on in the ledger's place. -/
theorem Pl.clone {w0 : World} {B : Nat} {w w1 w2 w3 : World} {gl gx gc : Nat} {xl xx y z : Lg} (h : Pl w0 B w gl gx xl xx) (hb : Below w.heap.size w w1) (hc : LgOwn w.heap.size w1 gc xl) (hB : B ≤ w.heap.size) (h2 : LgOwn B w2 gl y) (f2 : Fr gl w1 w2) (h3 : LgOwn B w3 gl z) (f3 : Fr gl w2 w3) : Pl w0 B w3 gc gx xl xx := by
  have p1 := h.below hb
  have p2 := p1.lcall f2 h2
  have p3 := p2.lcall f3 h3
  have hgl : gl < w.heap.size := lt_of_cell h.l.c0
  have hgx : gx < w.heap.size := lt_of_cell h.x.c0
  have hold : ∀ k, (k = gl ∨ Rb w1 gl k) → k < w.heap.size := fun k hk => (h.l.rb_old hb hk).2
  have hw : ∀ k, w.heap.size ≤ k → k < w1.heap.size → w3.heap[k]? = w1.heap[k]? := fun k h1 h4 => by
    rw [f3.chg.block k (Nat.lt_of_lt_of_le h4 f2.chg.size) fun h5 => ?_, f2.chg.block k h4 fun h5 => by have := hold k h5; omega]
    rcases h5 with h5 | h5
    · omega
    · rcases f2.row k h5 with h6 | h6
      · have := hold k (.inr h6)
        omega
      · omega
  have hc3 := hc.window (Nat.le_trans f2.chg.size f3.chg.size) hw
  refine ⟨?_, p3.x, hc3.av_base hgx, fun k hk => ?_, p3.b0, h.hB⟩
  · obtain ⟨p, n, c, E, hr⟩ := hc3.row
    exact ⟨Nat.le_trans hB hr.hB, hr.c0, hr.c1, ⟨p, n, c, E, hr.c2, hr.own.mono hB, hr.dat.mono hB, hr.ne, hr.nd⟩, hr.c3, hr.fr, hr.ok, hr.few⟩
  · rw [Rb.same (p2.gx_same f3), Rb.same (p1.gx_same f2), Rb.same (hb.block gx hgx)] at hk
    have hkl := (h.x.rb_lt hk).2
    exact ⟨by have := hc3.hB; omega, fun hn => by have := (hc3.rb_lt (.inr hn)).1; omega⟩
def MadeF (w0 : World) (q : Bool) (w : World) (ix tm : Int) (L : List En) (e : Ending) (w' : World) : Prop :=
  Below w.heap.size w w' ∧ (if q = true then ∃ gl gx, e = .returned (.tuple #[.pointer (some ⟨gl, 0, none⟩), .pointer (some ⟨gx, 0, none⟩), .bool true]) ∧ Pl w0 w.heap.size w' gl gx ⟨ix, tm, L⟩ ⟨ix, tm, L⟩ else e = .returned (.tuple #[.pointer none, .pointer none, .bool false]))
theorem MadeF.yes {w0 w w' : World} {ix tm : Int} {L : List En} {gl gx : Nat} (hb : Below w.heap.size w w') (h1 : Pl w0 w.heap.size w' gl gx ⟨ix, tm, L⟩ ⟨ix, tm, L⟩) : MadeF w0 true w ix tm L (.returned (.tuple #[.pointer (some ⟨gl, 0, none⟩), .pointer (some ⟨gx, 0, none⟩), .bool true])) w' := ⟨hb, by rw [if_pos rfl]; exact ⟨gl, gx, rfl, h1⟩⟩
theorem MadeF.no {w0 w w' : World} {ix tm : Int} {L : List En} (hb : Below w.heap.size w w') : MadeF w0 false w ix tm L (.returned (.tuple #[.pointer none, .pointer none, .bool false])) w' := ⟨hb, by rw [if_neg (by simp)]⟩

set_option maxRecDepth 200000 in
set_option maxHeartbeats 4000000 in
theorem made2F_any {w0 w : World} {ix tm : Int} {p : Option Addr} {n c : Nat} {L : List En} (hv0 : Ens w0 (.slice p n c) L) (hb0 : Below w0.heap.size w0 w) (hix : fits ix) (h9 : L.length ≤ 100000) : Calls Try.prog 9 #[.agg #[.int .i64 ix, .int .i64 tm, .slice p n c]] w (MadeF w0 (good ix tm && goOn ix tm L) w ix tm L) := by
  have hv := hv0.below hb0
  have b1 : Below w.heap.size w (w.alloc (.cells #[.int .i64 ix, .int .i64 tm, .slice p n c] 24)) := (Below.refl _ _).alloc (Nat.le_refl _) _
  have hcs : ∀ i u, #[Value.int .i64 ix, .int .i64 tm, .slice p n c][i]? = some u → (w.alloc (.cells #[.int .i64 ix, .int .i64 tm, .slice p n c] 24)).cell? ⟨w.heap.size, i, none⟩ = some u := fun i u h => by
    rw [cell_of_row _ w.heap.size _ _ _ (0, 0) (heap_alloc_new w _)]
    exact h
  obtain ⟨Y, hY⟩ : ∃ Y, w.alloc (.cells #[.int .i64 ix, .int .i64 tm, .slice p n c] 24) = Y := ⟨_, rfl⟩
  rw [hY] at b1
  rw [hY] at hcs
  have z0 := hcs 0 _ rfl
  have z1 := hcs 1 _ rfl
  have z2 := hcs 2 _ rfl
  have HZ := hide (And.intro z0 (And.intro z1 z2))
  have HB := hide b1
  have HV0 := hide hv0
  have HB0 := hide hb0
  have HF := hide hix
  have H9 := hide h9
  have HN := hide (new_any (tm := tm) (hv.below b1) hix h9)
  obtain ⟨q, hq⟩ : ∃ q, (good ix tm && goOn ix tm L) = q := ⟨_, rfl⟩
  unfold NewPost at HN
  rw [hq] at HN
  have HQ := hide hq
  rw [hq]
  clear b1 hcs hv hix h9 hq hv0 hb0
  go_enter Try.func9, Try.ntmps9
  go_wp2_with fail
  refine HN.out.mono ?_
  rintro e w2 ⟨hb2, hq2⟩
  have HB2 := hide hb2
  have HB02 : Hid (Below w0.heap.size w0 w2) := hide (HB0.out.trans ((HB.out.trans (hb2.mono HB.out.size)).mono HB0.out.size))
  have HR := hide (refNewF_any (w0 := w0) (tm := tm) HV0.out HB02.out HF.out H9.out)
  rw [HQ.out] at HR
  clear z0 z1 z2
  have z0 := (hb2.cell (lt_of_cell HZ.out.1)).trans HZ.out.1
  have z1 := (hb2.cell (lt_of_cell HZ.out.2.1)).trans HZ.out.2.1
  have z2 := (hb2.cell (lt_of_cell HZ.out.2.2)).trans HZ.out.2.2
  clear hb2
  cases q
  · rw [if_neg (by simp)] at hq2
    subst hq2
    go_wp2_with fail
    refine HR.out.mono ?_
    rintro e w3 ⟨hb3, hq3⟩
    rw [if_neg (by simp)] at hq3
    subst hq3
    have HB3 := hide (HB.out.trans ((HB2.out.trans (hb3.mono HB2.out.size)).mono HB.out.size))
    clear hb3
    go_wp2
    exact bodyPost_ret (v := .tuple #[.pointer none, .pointer none, .bool false]) (by simp [results, Try.results9, go_sem]) rfl (MadeF.no HB3.out)
  · rw [if_pos rfl] at hq2
    obtain ⟨gl, rfl, hl2⟩ := hq2
    have HL2 := hide hl2
    clear hl2
    go_wp2_with fail
    refine HR.out.mono ?_
    rintro e w3 ⟨hb3, hq3⟩
    rw [if_pos rfl] at hq3
    obtain ⟨gx, rfl, hx3⟩ := hq3
    have HPL : Hid (Pl w0 w.heap.size w3 gl gx ⟨ix, tm, L⟩ ⟨ix, tm, L⟩) := hide ⟨(HL2.out.below hb3).mono HB.out.size, hx3.mono (Nat.le_trans HB.out.size HB2.out.size), HL2.out.av_old hb3 hx3.hB, fun k hk => by
      have h1 := (hx3.rb_lt hk).1
      have h2 : gl < w2.heap.size := lt_of_cell HL2.out.c0
      exact ⟨by omega, fun hn => by have := (HL2.out.rb_old hb3 (.inr hn)).2; omega⟩, HB02.out.trans (hb3.mono HB02.out.size), HB0.out.size⟩
    have HB3 := hide (HB.out.trans ((HB2.out.trans (hb3.mono HB2.out.size)).mono HB.out.size))
    clear hb3 hx3
    go_wp2
    exact bodyPost_ret (v := .tuple #[.pointer (some ⟨gl, 0, none⟩), .pointer (some ⟨gx, 0, none⟩), .bool true]) (by simp [results, Try.results9, go_sem]) rfl (MadeF.yes HB3.out HPL.out)
theorem ens_lit2 (w : World) (i t j u : Int) (hi : fits i) (ht : fits t) (hj : fits j) (hu : fits u) : Ens (w.alloc (.cells #[.int .i64 i, .int .i64 t, .slice none 0 0, .int .i64 j, .int .i64 u, .slice none 0 0] 48)) (.slice (some ⟨w.heap.size, 0, none⟩) 2 2) [⟨i, t, []⟩, ⟨j, u, []⟩] := by
  have hc : ∀ m v, #[Value.int .i64 i, .int .i64 t, .slice none 0 0, .int .i64 j, .int .i64 u, .slice none 0 0][m]? = some v → (w.alloc (.cells #[.int .i64 i, .int .i64 t, .slice none 0 0, .int .i64 j, .int .i64 u, .slice none 0 0] 48)).cell? ⟨w.heap.size, m, none⟩ = some v := fun m v h => by
    rw [cell_of_row _ w.heap.size _ _ _ (0, 0) (heap_alloc_new w _)]
    exact h
  refine ⟨[⟨i, t, none, 0, 0⟩, ⟨j, u, none, 0, 0⟩], ⟨_, 2, rfl, by simp, by decide, (fun e => by cases e), fun _ => ⟨_, 0, rfl, fun k x hx => ?_⟩⟩, rfl, fun k e x h1 h2 => ?_⟩
  · match k with
    | 0 =>
      simp at hx
      subst hx
      intro m v hv
      match m with
      | 0 => exact hc 0 v hv
      | 1 => exact hc 1 v hv
      | 2 => exact hc 2 v hv
      | m + 3 => simp [ecC] at hv
    | 1 =>
      simp at hx
      subst hx
      intro m v hv
      match m with
      | 0 => exact hc 3 v hv
      | 1 => exact hc 4 v hv
      | 2 => exact hc 5 v hv
      | m + 3 => simp [ecC] at hv
    | k + 2 => simp at hx
  · match k with
    | 0 =>
      simp at h1 h2
      subst h1 h2
      exact ⟨rfl, rfl, By.nil _, hi, ht⟩
    | 1 =>
      simp at h1 h2
      subst h1 h2
      exact ⟨rfl, rfl, By.nil _, hj, hu⟩
    | k + 2 => simp at h1
theorem lightF_sum : ∀ {m n : Int} {L : List (List En)}, lightF m n L = true → m ≤ 200 → m + ((L.map List.length).sum : Nat) ≤ 200
  | m, n, [], _, hm => by simpa using hm
  | m, n, x :: r, h, hm => by
    unfold lightF at h
    by_cases hc : 200 < m + x.length ∨ 65536 < n + bsum x (min x.length 201)
    · rw [if_pos hc] at h
      cases h
    · rw [if_neg hc] at h
      have := lightF_sum h (by omega)
      rw [List.map_cons, List.sum_cons]
      omega
/-- How many entries the calls from the k-th on bring at most. -/
def rem (D : List Dp) (k : Nat) : Nat := (((D.drop k).map Dp.l).map List.length).sum
theorem rem_succ {D : List Dp} {k : Nat} {d : Dp} (h : D[k]? = some d) : rem D k = d.l.length + rem D (k + 1) := by
  unfold rem
  obtain ⟨hk, e⟩ := List.getElem?_eq_some_iff.1 h
  rw [List.drop_eq_getElem_cons hk, e]
  simp
theorem rem_short {D : List Dp} (h : shortD D = true) : D.length ≤ 60 ∧ rem D 0 ≤ 200 := by
  unfold shortD at h
  rw [Bool.and_eq_true] at h
  refine ⟨by simpa using h.1, ?_⟩
  have := lightF_sum h.2 (by omega)
  unfold rem
  rw [List.drop_zero]
  omega
theorem addR_len (x : Lg) (L : List En) : (addR x L).2.l.length ≤ x.l.length + L.length := by
  unfold addR
  by_cases h : goOn x.end_.1 x.end_.2 L = true
  · rw [if_pos h]
    simp
  · rw [if_neg h]
    simp
theorem cutR_len (x : Lg) (i : Int) : (cutR x i).2.l.length ≤ x.l.length := by
  unfold cutR
  by_cases h : hasI x i = true
  · rw [if_pos h]
    simp only [List.length_take]
    omega
  · rw [if_neg h]
    exact Nat.le_refl _
theorem rebR_len (x : Lg) (i t : Int) : (rebR x i t).2.l.length ≤ x.l.length := by
  unfold rebR
  by_cases h : (good i t && decide (x.ix ≤ i)) = true
  · rw [if_pos h]
    by_cases h2 : agreesI x i t = true
    · simp only [h2, if_true, List.length_drop]
      omega
    · simp [h2]
  · rw [if_neg h]
    exact Nat.le_refl _
theorem merge_len {x : Lg} {i t : Int} {L : List En} {a : Int} {S : List En} {q : Bool} (h : mergeI x i t L = (a, S, q)) : S.length ≤ L.length := by
  cases q
  · rw [(merge_no h).2]
    simp
  · rcases (merge_cases h).2 with ⟨_, rfl, _⟩ | ⟨k, _, _, _, _, _, _, rfl⟩
    · simp
    · rw [List.length_drop]
      omega
/-- Both, and a call in a box of its own. -/
structure PlB (w0 : World) (B : Nat) (w : World) (gl gx : Nat) (xl xx : Lg) (bz : Nat) (d : Dp) : Prop where
  pl : Pl w0 B w gl gx xl xx
  bx : DpAt w bz 0 d
  nl : ¬ (bz = gl ∨ Rb w gl bz)
  nx : bz ≠ gx
theorem PlB.lt {w0 : World} {B : Nat} {w : World} {gl gx : Nat} {xl xx : Lg} {bz : Nat} {d : Dp} (h : PlB w0 B w gl gx xl xx bz d) : bz < w.heap.size := lt_of_cell (h.bx 0 _ rfl)
theorem PlB.cells {w0 : World} {B : Nat} {w : World} {gl gx : Nat} {xl xx : Lg} {bz : Nat} {d : Dp} (h : PlB w0 B w gl gx xl xx bz d) : w.cell? ⟨bz, 0, none⟩ = some (.int .i64 d.op) ∧ w.cell? ⟨bz, 1, none⟩ = some (.int .i64 d.n) ∧ w.cell? ⟨bz, 2, none⟩ = some (.int .i64 d.t) ∧ w.cell? ⟨bz, 3, none⟩ = some (.slice d.p d.nl d.c) := by
  have h0 := h.bx 0 _ rfl
  have h1 := h.bx 1 _ rfl
  have h2 := h.bx 2 _ rfl
  have h3 := h.bx 3 _ rfl
  rw [Nat.zero_add] at h0 h1 h2 h3
  exact ⟨h0, h1, h2, h3⟩
theorem PlB.new {w0 : World} {B : Nat} {w : World} {gl gx : Nat} {xl xx : Lg} (h : Pl w0 B w gl gx xl xx) (d : Dp) : PlB w0 B (w.alloc (.cells #[.int .i64 d.op, .int .i64 d.n, .int .i64 d.t, .slice d.p d.nl d.c] 34)) gl gx xl xx w.heap.size d := by
  have hb : Below w.heap.size w (w.alloc (.cells #[.int .i64 d.op, .int .i64 d.n, .int .i64 d.t, .slice d.p d.nl d.c] 34)) := (Below.refl _ _).alloc (Nat.le_refl _) _
  refine ⟨h.below hb, fun k u hk => ?_, fun hn => ?_, ?_⟩
  · rw [Nat.zero_add, cell_of_row _ w.heap.size _ _ _ (0, 0) (heap_alloc_new w _)]
    simpa [dpC] using hk
  · rcases hn with hn | hn
    · have : gl < w.heap.size := lt_of_cell h.l.c0
      omega
    · have := (h.l.rb_old hb (.inr hn)).2
      omega
  · have : gx < w.heap.size := lt_of_cell h.x.c0
    omega
theorem PlB.below {w0 : World} {B : Nat} {w w' : World} {gl gx : Nat} {xl xx : Lg} {bz : Nat} {d : Dp} (h : PlB w0 B w gl gx xl xx bz d) (hb : Below w.heap.size w w') : PlB w0 B w' gl gx xl xx bz d :=
  ⟨h.pl.below hb, h.bx.below hb, fun hn => h.nl (hn.imp id (Rb.same (hb.block gl (lt_of_cell h.pl.l.c0))).1), h.nx⟩
theorem PlB.lcall {w0 : World} {B : Nat} {w w' : World} {gl gx : Nat} {xl xx y : Lg} {bz : Nat} {d : Dp} (h : PlB w0 B w gl gx xl xx bz d) (hf : Fr gl w w') (hl : LgOwn B w' gl y) : PlB w0 B w' gl gx y xx bz d :=
  ⟨h.pl.lcall hf hl, fun k u hk => hf.chg.cell (h.bx k u hk) h.nl, fun hn => by
    rcases hn with hn | hn
    · exact h.nl (.inl hn)
    · rcases hf.row bz hn with h1 | h1
      · exact h.nl (.inr h1)
      · have := h.lt
        omega, h.nx⟩
theorem PlB.gcall {w0 : World} {B : Nat} {w w' : World} {gl gx : Nat} {xl xx y : Lg} {bz : Nat} {d : Dp} (h : PlB w0 B w gl gx xl xx bz d) (hg : RgOwn w0 B w' gx y) (hc : Chg w w' (fun k => k = gx)) (hrow : ∀ k, Rb w' gx k → Rb w gx k ∨ w.heap.size ≤ k) : PlB w0 B w' gl gx xl y bz d :=
  ⟨h.pl.gcall hg hc hrow, fun k u hk => hc.cell (h.bx k u hk) h.nx, fun hn => h.nl (hn.imp id (Rb.same (hc.block gl (lt_of_cell h.pl.l.c0) h.pl.av.1)).1), h.nx⟩
theorem Pl.hBw {w0 : World} {B : Nat} {w : World} {gl gx : Nat} {xl xx : Lg} (h : Pl w0 B w gl gx xl xx) : B ≤ w.heap.size := by
  have := h.l.hB
  have : gl < w.heap.size := lt_of_cell h.l.c0
  omega
end Go.Proofs.Ytmalhdiholblgaa
