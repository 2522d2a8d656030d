/- made: a ledger, and the document's. -/
import Derived.Test.YtmalhdiholblgaaLRefN
namespace Go.Proofs.Ytmalhdiholblgaa
set_option linter.unusedVariables false
set_option linter.unusedSimpArgs false
open Go.RowKit

def MadeE (q : Bool) (w : World) (ix tm : Int) (L : List En) (e : Ending) (w' : World) : Prop :=
  Below w.heap.size w w' ∧ (if q = true then ∃ gl gx, e = .returned (.tuple #[.pointer (some ⟨gl, 0, none⟩), .pointer (some ⟨gx, 0, none⟩), .bool true]) ∧ LgOwn w.heap.size w' gl ⟨ix, tm, L⟩ ∧ RgIs w' gx ⟨ix, tm, L⟩ else e = .returned (.tuple #[.pointer none, .pointer none, .bool false]))
theorem MadeE.yes {w w' : World} {ix tm : Int} {L : List En} {gl gx : Nat} (hb : Below w.heap.size w w') (h1 : LgOwn w.heap.size w' gl ⟨ix, tm, L⟩) (h2 : RgIs w' gx ⟨ix, tm, L⟩) : MadeE true w ix tm L (.returned (.tuple #[.pointer (some ⟨gl, 0, none⟩), .pointer (some ⟨gx, 0, none⟩), .bool true])) w' := ⟨hb, by rw [if_pos rfl]; exact ⟨gl, gx, rfl, h1, h2⟩⟩
theorem MadeE.no {w w' : World} {ix tm : Int} {L : List En} (hb : Below w.heap.size w w') : MadeE false w ix tm L (.returned (.tuple #[.pointer none, .pointer none, .bool false])) w' := ⟨hb, by rw [if_neg (by simp)]⟩

theorem LgOwn.mono {B B' : Nat} {w : World} {g : Nat} {x : Lg} (h : LgOwn B w g x) (hB : B' ≤ B) : LgOwn B' w g x := by
  obtain ⟨p, n, c, E, h1, h2, h3, h4⟩ := h.c2
  exact ⟨Nat.le_trans hB h.hB, h.c0, h.c1, ⟨p, n, c, E, h1, h2.mono hB, h3.mono hB, h4⟩, h.c3, h.fr, h.ok, h.few⟩
set_option maxRecDepth 200000 in
set_option maxHeartbeats 4000000 in
theorem made2_any {w : World} {ix tm : Int} {p : Option Addr} {n c : Nat} {L : List En} (hv : Ens w (.slice p n c) L) (hix : fits ix) (h9 : L.length ≤ 100000) : Calls Try.prog 9 #[.agg #[.int .i64 ix, .int .i64 tm, .slice p n c]] w (MadeE (good ix tm && goOn ix tm L) w ix tm L) := by
  have b1 : Below w.heap.size w (w.alloc (.cells #[.int .i64 ix, .int .i64 tm, .slice p n c] 24)) := (Below.refl _ _).alloc (Nat.le_refl _) _
  have hcs : ∀ i u, #[Value.int .i64 ix, .int .i64 tm, .slice p n c][i]? = some u → (w.alloc (.cells #[.int .i64 ix, .int .i64 tm, .slice p n c] 24)).cell? ⟨w.heap.size, i, none⟩ = some u := fun i u h => by
    rw [cell_of_row _ w.heap.size _ _ _ (0, 0) (heap_alloc_new w _)]
    exact h
  obtain ⟨Y, hY⟩ : ∃ Y, w.alloc (.cells #[.int .i64 ix, .int .i64 tm, .slice p n c] 24) = Y := ⟨_, rfl⟩
  rw [hY] at b1
  rw [hY] at hcs
  have z0 := hcs 0 _ rfl
  have z1 := hcs 1 _ rfl
  have z2 := hcs 2 _ rfl
  have HZ := hide (And.intro z0 (And.intro z1 z2))
  have HB := hide b1
  have HV := hide (hv.below b1)
  have HF := hide hix
  have H9 := hide h9
  have HN := hide (new_any (tm := tm) (hv.below b1) hix h9)
  obtain ⟨q, hq⟩ : ∃ q, (good ix tm && goOn ix tm L) = q := ⟨_, rfl⟩
  unfold NewPost at HN
  rw [hq] at HN
  have HQ := hide hq
  rw [hq]
  clear b1 hcs hv hix h9 hq
  go_enter Try.func9, Try.ntmps9
  go_wp2_with fail
  refine HN.out.mono ?_
  rintro e w2 ⟨hb2, hq2⟩
  have HB2 := hide hb2
  have HR := hide (refNew_any (tm := tm) (HV.out.below hb2) HF.out H9.out)
  rw [HQ.out] at HR
  clear z0 z1 z2
  have z0 := (hb2.cell (lt_of_cell HZ.out.1)).trans HZ.out.1
  have z1 := (hb2.cell (lt_of_cell HZ.out.2.1)).trans HZ.out.2.1
  have z2 := (hb2.cell (lt_of_cell HZ.out.2.2)).trans HZ.out.2.2
  clear hb2
  cases q
  · rw [if_neg (by simp)] at hq2
    subst hq2
    go_wp2_with fail
    refine HR.out.mono ?_
    rintro e w3 ⟨hb3, hq3⟩
    rw [if_neg (by simp)] at hq3
    subst hq3
    have HB3 := hide (HB.out.trans ((HB2.out.trans (hb3.mono HB2.out.size)).mono HB.out.size))
    clear hb3
    go_wp2
    exact bodyPost_ret (v := .tuple #[.pointer none, .pointer none, .bool false]) (by simp [results, Try.results9, go_sem]) rfl (MadeE.no HB3.out)
  · rw [if_pos rfl] at hq2
    obtain ⟨gl, rfl, hl2⟩ := hq2
    have HL2 := hide hl2
    clear hl2
    go_wp2_with fail
    refine HR.out.mono ?_
    rintro e w3 ⟨hb3, hq3⟩
    rw [if_pos rfl] at hq3
    obtain ⟨gx, rfl, hx3⟩ := hq3
    have HX3 := hide hx3
    have HL3 := hide ((HL2.out.below hb3).mono HB.out.size)
    have HB3 := hide (HB.out.trans ((HB2.out.trans (hb3.mono HB2.out.size)).mono HB.out.size))
    clear hb3 hx3
    go_wp2
    exact bodyPost_ret (v := .tuple #[.pointer (some ⟨gl, 0, none⟩), .pointer (some ⟨gx, 0, none⟩), .bool true]) (by simp [results, Try.results9, go_sem]) rfl (MadeE.yes HB3.out HL3.out HX3.out)
end Go.Proofs.Ytmalhdiholblgaa
