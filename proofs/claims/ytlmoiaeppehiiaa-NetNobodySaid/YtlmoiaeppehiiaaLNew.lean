/- A ledger is made. -/
import Derived.Test.YtlmoiaeppehiiaaLOwn
import Derived.Deep.DrawnRows
import Derived.Deep.RegionHeld3
namespace Go.Proofs.Ytlmoiaeppehiiaa
set_option linter.unusedVariables false
set_option linter.unusedSimpArgs false
open Go.RowKit

/-- A ledger of the call's own, from B on. -/
structure LgOwn (B : Nat) (w : World) (g : Nat) (x : Lg) : Prop where
  hB : B ≤ g
  c0 : w.cell? ⟨g, 0, none⟩ = some (.int .i64 x.ix)
  c1 : w.cell? ⟨g, 1, none⟩ = some (.int .i64 x.tm)
  c2 : ∃ p n c E, w.cell? ⟨g, 2, none⟩ = some (.slice p n c) ∧ OwnE B w (.slice p n c) E ∧ DatO B w (.slice p n c) E x.l ∧ (Value.slice p n c).ownBlock ≠ some g ∧ ∀ e ∈ E, e.c = 0 ∨ (Value.slice e.p e.n e.c).ownBlock ≠ some g
  c3 : w.cell? ⟨g, 3, none⟩ = some (.bool true)
  fr : ∀ i, i < 4 → w.frozen? ⟨g, i, none⟩ = false
  ok : x.Ok
  few : x.l.length ≤ 100000
theorem LgOwn.is {B : Nat} {w : World} {g : Nat} {x : Lg} (h : LgOwn B w g x) : LgIs w g x := by
  obtain ⟨p, n, c, E, h1, h2, h3, _⟩ := h.c2
  exact ⟨h.c0, h.c1, ⟨p, n, c, h1, E, h2.ecs, h3.dat⟩, h.c3, h.ok, by have := h.few; omega⟩
theorem LgOwn.below {B : Nat} {w w' : World} {g : Nat} {x : Lg} (h : LgOwn B w g x) (hb : Below w.heap.size w w') : LgOwn B w' g x := by
  have hg : g < w.heap.size := lt_of_cell h.c0
  obtain ⟨p, n, c, E, h1, h2, h3, h4⟩ := h.c2
  exact ⟨h.hB, (hb.cell (lt_of_cell h.c0)).trans h.c0, (hb.cell (lt_of_cell h.c1)).trans h.c1, ⟨p, n, c, E, (hb.cell (lt_of_cell h1)).trans h1, h2.below hb, h3.below hb, h4⟩, (hb.cell (lt_of_cell h.c3)).trans h.c3,
    fun i hi => (hb.frozen (p := ⟨g, i, none⟩) hg).trans (h.fr i hi), h.ok, h.few⟩
/-- What New says. -/
def NewE (q : Bool) (w : World) (ix tm : Int) (L : List En) (e : Ending) (w' : World) : Prop :=
  Below w.heap.size w w' ∧ (if q = true then ∃ g, e = .returned (.tuple #[.pointer (some ⟨g, 0, none⟩), .int .i64 0]) ∧ LgOwn w.heap.size w' g ⟨ix, tm, L⟩ else e = .returned (.tuple #[.pointer none, .int .i64 110]))
def NewPost (w : World) (ix tm : Int) (L : List En) (e : Ending) (w' : World) : Prop := NewE (good ix tm && goOn ix tm L) w ix tm L e w'
theorem goOn_data : ∀ {ix tm : Int} {l : List En}, goOn ix tm l = true → ∀ x ∈ l, x.d.length ≤ 4096
  | _, _, [], _, x, hx => by cases hx
  | ix, tm, e :: r, h, x, hx => by
    unfold goOn at h
    rw [Bool.and_eq_true] at h
    rcases List.mem_cons.1 hx with rfl | hx
    · have := h.1
      simp only [follow, Bool.and_eq_true, decide_eq_true_eq] at this
      exact this.2
    · exact goOn_data h.2 x hx
/-- The new ledger's box. -/
theorem LgOwn.new {B : Nat} {w : World} {ix tm : Int} {v : Value} {p : Option Addr} {n c : Nat} {L : List En} {E : List Ec} (hv : v = .slice p n c) (hE : OwnE B w v E) (hD : DatO B w v E L) (hB : B ≤ w.heap.size) (hok : (Lg.mk ix tm L).Ok) (hfew : L.length ≤ 100000) :
    LgOwn B (w.alloc (.cells #[.int .i64 ix, .int .i64 tm, v, .bool true] 140)) w.heap.size ⟨ix, tm, L⟩ := by
  subst hv
  have hb : Below w.heap.size w (w.alloc (.cells #[.int .i64 ix, .int .i64 tm, .slice p n c, .bool true] 140)) := (Below.refl _ _).alloc (Nat.le_refl _) _
  have hc : ∀ i u, #[Value.int .i64 ix, .int .i64 tm, .slice p n c, .bool true][i]? = some u → (w.alloc (.cells #[.int .i64 ix, .int .i64 tm, .slice p n c, .bool true] 140)).cell? ⟨w.heap.size, i, none⟩ = some u := fun i u h => by
    rw [cell_of_row _ w.heap.size _ _ _ (0, 0) (heap_alloc_new w _)]
    exact h
  refine ⟨hB, hc 0 _ rfl, hc 1 _ rfl, ⟨p, n, c, E, hc 2 _ rfl, hE.below hb, hD.below hb, fun e => ?_, fun e he => ?_⟩, hc 3 _ rfl, fun i _ => ?_, hok, hfew⟩
  · have := (hE.lt _ e).2
    omega
  · obtain ⟨k, hk⟩ := List.mem_iff_getElem?.1 he
    have hkl := (List.getElem?_eq_some_iff.1 hk).1
    obtain ⟨_, _, ho, _⟩ := hD.2 k e _ hk (List.getElem?_eq_getElem (by rw [← hD.1]; exact hkl))
    rcases ho.far with h0 | ⟨g, hp, _, hlt⟩
    · exact .inl h0
    · refine .inr fun e2 => ?_
      rw [hp] at e2
      injection e2 with e2
      have : (⟨g, 0, none⟩ : Addr).block = g := rfl
      omega
  · rw [frozen?_alloc_cells]
    simp [World.frozen?]

set_option maxRecDepth 200000 in
set_option maxHeartbeats 4000000 in
theorem new_any {w : World} {ix tm : Int} {v : Value} {L : List En} (hv : Ens w v L) (hix : fits ix) (h6 : L.length ≤ 100000) : Calls Try.prog 100 #[.int .i64 ix, .int .i64 tm, v] w (NewPost w ix tm L) := by
  obtain ⟨p, n, c, rfl⟩ := hv.sl
  have HFX := hide hix
  have b1 : Below w.heap.size w (w.alloc (.cells #[.int .i64 ix, .int .i64 tm] 137)) := (Below.refl _ _).alloc (Nat.le_refl _) _
  have HBX := hide (Box2.new w ix tm 137)
  have HV := hide (hv.below b1)
  have HB1 := hide b1
  obtain ⟨b, hb⟩ : ∃ b, w.heap.size = b := ⟨_, rfl⟩
  obtain ⟨Y, hY⟩ : ∃ Y, w.alloc (.cells #[.int .i64 ix, .int .i64 tm] 137) = Y := ⟨_, rfl⟩
  rw [hY] at HBX HB1 HV
  rw [hb] at HBX HB1
  have H6 := hide h6
  clear b1 hv hix h6
  have HM1 : Hid (∀ W, Calls Try.prog 104 #[.agg #[.int .i64 ix, .int .i64 tm]] W fun e w' => e = .returned (.bool (good ix tm)) ∧ Below W.heap.size W w') := hide fun W => mayBe_any ix tm
  have HM2 : Hid (∀ W, Below Y.heap.size Y W → Calls Try.prog 105 #[.agg #[.int .i64 ix, .int .i64 tm], .slice p n c] W fun e w' => e = .returned (.bool (goOn ix tm L)) ∧ Below W.heap.size W w') := hide fun W hW => mayGoOn_any (HV.out.below hW) HFX.out
  obtain ⟨q1, hq1⟩ : ∃ q, good ix tm = q := ⟨_, rfl⟩
  obtain ⟨q2, hq2⟩ : ∃ q, goOn ix tm L = q := ⟨_, rfl⟩
  rw [hq1] at HM1
  rw [hq2] at HM2
  have HQ := hide (And.intro hq1 hq2)
  unfold NewPost
  rw [hq1, hq2]
  have HBWW := hide hb
  clear hq1 hq2
  obtain ⟨y0, y1, y2, y3⟩ := HBX.out
  go_enter Try.func100, Try.ntmps100
  go_wp2_with fail
  refine (HM1.out _).mono ?_
  rintro e w2 ⟨rfl, hb2⟩
  have HB2 := hide hb2
  clear hb2
  cases q1
  · go_wp2
    go_ret2
    have hbw : Below b w w2 := HB1.out.trans (HB2.out.mono (by have := HB1.out.size; omega))
    exact ⟨by rw [HBWW.out]; exact hbw, rfl⟩
  · have HX2 := hide (HBX.out.below HB2.out)
    clear y0 y1 y2 y3
    obtain ⟨y0, y1, y2, y3⟩ := HX2.out
    go_wp2_with fail
    refine (HM2.out _ HB2.out).mono ?_
    rintro e w3 ⟨rfl, hb3⟩
    have HB3 := hide (HB2.out.trans (hb3.mono HB2.out.size))
    have HBW : Hid (Below b w w3) := hide (HB1.out.trans (HB3.out.mono (by have := HB1.out.size; omega)))
    clear hb3
    cases q2
    · go_wp2
      go_ret2
      exact ⟨by rw [HBWW.out]; exact HBW.out, rfl⟩
    · have HX3 := hide (HBX.out.below HB3.out)
      clear y0 y1 y2 y3
      obtain ⟨y0, y1, y2, y3⟩ := HX3.out
      have HOW := hide (fun V (hV : Below w3.heap.size w3 V) => own_any ((HV.out.below HB3.out).below hV) H6.out (goOn_data HQ.out.2))
      have HOK : Hid ((Lg.mk ix tm L).Ok) := hide ⟨HQ.out.1, HQ.out.2⟩
      have kp : ∀ V, Below w3.heap.size w3 V → V.cell? ⟨b, 0, none⟩ = some (.int .i64 ix) ∧ V.cell? ⟨b, 1, none⟩ = some (.int .i64 tm) := fun V hV => ⟨(hV.cell (lt_of_cell HX3.out.1)).trans HX3.out.1, (hV.cell (lt_of_cell HX3.out.2.1)).trans HX3.out.2.1⟩
      have KEEP := hide kp
      clear kp
      go_wp2_with fail
      go_region_held3 (fun V => V.cell? ⟨b, 0, none⟩ = some (.int .i64 ix) ∧ V.cell? ⟨b, 1, none⟩ = some (.int .i64 tm)) (first | go_keep | exact KEEP.out _ HBO.out)
        ((go_at_call 106; (refine (HOW.out _ (by first | exact Below.refl _ _ | exact bel_drewN (Below.refl _ _) _ | exact bel_drewN (Below.refl _ _) 1)).mono ?_); rintro e w5 ⟨v5, rfl, ho5, hb5⟩; obtain ⟨E5, hE5, hD5⟩ := ho5; obtain ⟨p5, n5, c5, rfl⟩ := hE5.ecs.sl; have HO5 := hide (And.intro hE5 hD5); have HBO : Hid (Below w3.heap.size w3 w5) := hide ((bel_drewN (Below.refl _ w3) 1).trans hb5); clear hE5 hD5 hb5))
      have hB5 : w.heap.size ≤ w3.heap.size := by have := HBW.out.size; omega
      have hL5 := LgOwn.new (B := w.heap.size) rfl (HO5.out.1.mono hB5) (HO5.out.2.mono hB5) (by have := HBO.out.size; omega) HOK.out H6.out
      have HL5 := hide hL5
      have HBZ : Hid (Below w.heap.size w (w5.alloc (.cells #[.int .i64 ix, .int .i64 tm, .slice p5 n5 c5, .bool true] 140))) := hide (by
        rw [HBWW.out]
        exact (HBW.out.trans (HBO.out.mono (by omega))).alloc (by have := HBO.out.size; omega) _)
      clear hL5 hB5
      go_wp2
      go_ret2
      exact ⟨HBZ.out, _, rfl, HL5.out⟩
end Go.Proofs.Ytlmoiaeppehiiaa
