/- A bag in memory. -/
import Derived.Test.YtiiollgipfggmaaNDel
import Derived.Test.YtiiollgipfggmaaNRead
import Derived.Test.YtiiollgipfggmaaNPay2
namespace Go.Proofs.Ytiiollgipfggmaa
set_option linter.unusedVariables false
set_option linter.unusedSimpArgs false
open Go.RowKit

/-- A bag: the last number, the messages with theirs. -/
structure Bg where
  last : Int
  ps : List (Int × Ms)
/-- A message that may be in a bag. -/
structure MIn (m : Ms) : Prop where
  ok : okM m = true
  fit : m.Fits
  ef : ∀ e ∈ m.es, e.fits
  vf : ∀ x ∈ m.vs, fits x
theorem MIn.len {m : Ms} (h : MIn m) : (payL m).length ≤ 40000 := (okM_ok h.ok).pay_len h.fit (fun e he => (h.ef e he).2) h.vf
theorem MIn.read {m : Ms} (h : MIn m) : readP (payL m) = m := (readP_pay (okM_ok h.ok) (by have := h.len; omega)).1
theorem payL_pos (m : Ms) : 0 < (payL m).length := by
  have := digits_pos m.es.length
  unfold payL
  simp only [List.length_append]
  omega
theorem Own.lt' {B : Nat} {w : World} {p : Option Addr} {n c : Nat} {l : List UInt8} (h : Own B w (.slice p n c) l) (hl : 0 < l.length) : ∀ j, (Value.slice p n c).ownBlock = some j → B ≤ j ∧ j < w.heap.size := fun j hj => by
  rcases h with ⟨e, h1⟩ | ⟨g, cap, e, hB, hlc, hm, hc, hs, hf⟩
  · rw [h1] at hl
    simp at hl
  · injection e with e1 e2 e3
    subst e1
    injection hj with hj
    have e4 : (⟨g, 0, none⟩ : Addr).block = g := rfl
    obtain ⟨u, hu⟩ := Option.isSome_iff_exists.1 (hs 0 (by omega))
    have := lt_of_cell hu
    rw [e4] at hj this
    omega
structure Bg.Ok (x : Bg) : Prop where
  inn : ∀ y ∈ x.ps, MIn y.2
  few : x.ps.length ≤ 256
  l0 : 0 ≤ x.last
  l1 : x.last ≤ 1000000
  ids : ∀ y ∈ x.ps, 0 ≤ y.1 ∧ y.1 ≤ x.last
/-- What lies in the parcels' row. -/
def PcD (B : Nat) (w : World) (g : Nat) (v : Value) (E : List Pc) (L : List (Int × Ms)) : Prop :=
  E.length = L.length ∧ ∀ (k : Nat) e y, E[k]? = some e → L[k]? = some y → e.i = y.1 ∧ Own B w (.slice e.p e.n e.c) (payL y.2) ∧ ∀ j, (Value.slice e.p e.n e.c).ownBlock = some j → j ≠ g ∧ v.ownBlock ≠ some j
/-- A bag of a call's own, from B on. -/
structure BgIs (B : Nat) (w : World) (g : Nat) (v : Value) (x : Bg) : Prop where
  hB : B ≤ g
  c0 : w.cell? ⟨g, 0, none⟩ = some (.bool true)
  c1 : w.cell? ⟨g, 1, none⟩ = some (.int .i64 x.last)
  c2 : w.cell? ⟨g, 2, none⟩ = some v
  fr : ∀ i, w.frozen? ⟨g, i, none⟩ = false
  row : ∃ E, OwnP B w v E ∧ PcD B w g v E x.ps
  vg : v.ownBlock ≠ some g
  ok : x.Ok
/-- The blocks that a bag's calls may change. -/
def BgS (g : Nat) (v : Value) (k : Nat) : Prop := k = g ∨ v.ownBlock = some k
theorem BgIs.gl {B : Nat} {w : World} {g : Nat} {v : Value} {x : Bg} (h : BgIs B w g v x) : g < w.heap.size := lt_of_cell h.c0
theorem BgIs.S {B : Nat} {w : World} {g : Nat} {v : Value} {x : Bg} (h : BgIs B w g v x) : ∀ k, BgS g v k → B ≤ k ∧ k < w.heap.size := by
  rintro k (rfl | hk)
  · exact ⟨h.hB, h.gl⟩
  · obtain ⟨E, hE, _⟩ := h.row
    exact hE.lt k hk
theorem PcD.below {B : Nat} {w w' : World} {g : Nat} {v : Value} {E : List Pc} {L : List (Int × Ms)} (h : PcD B w g v E L) (hb : Below w.heap.size w w') : PcD B w' g v E L := ⟨h.1, fun k e y a b => by
  obtain ⟨p, q, r⟩ := h.2 k e y a b
  exact ⟨p, q.below hb, r⟩⟩
theorem BgIs.below {B : Nat} {w w' : World} {g : Nat} {v : Value} {x : Bg} (h : BgIs B w g v x) (hb : Below w.heap.size w w') : BgIs B w' g v x := by
  obtain ⟨E, hE, hD⟩ := h.row
  exact ⟨h.hB, (hb.cell (lt_of_cell h.c0)).trans h.c0, (hb.cell (lt_of_cell h.c1)).trans h.c1, (hb.cell (lt_of_cell h.c2)).trans h.c2, fun i => (hb.frozen (p := ⟨g, i, none⟩) h.gl).trans (h.fr i), ⟨E, hE.below hb, hD.below hb⟩, h.vg, h.ok⟩
/-- A bag stays where blocks below B alone change. -/
theorem BgIs.chg {B : Nat} {w w' : World} {g : Nat} {v : Value} {x : Bg} {S : Nat → Prop} (h : BgIs B w g v x) (hc : Chg w w' S) (hS : ∀ k, S k → k < B) : BgIs B w' g v x := by
  obtain ⟨E, hE, hD⟩ := h.row
  have hg : ¬ S g := fun e => by have := hS g e; have := h.hB; omega
  refine ⟨h.hB, hc.cell h.c0 hg, hc.cell h.c1 hg, hc.cell h.c2 hg, fun i => ?_, ⟨E, ownsRow_chg hE hc hS, hD.1, fun k e y a b => ?_⟩, h.vg, h.ok⟩
  · have hb := hc.block g h.gl hg
    have := h.fr i
    unfold World.frozen? at this ⊢
    simp only [hb]
    exact this
  · obtain ⟨p, q, r⟩ := hD.2 k e y a b
    exact ⟨p, q.chg hc hS, r⟩
/-- The parcels' data where the row and the bag's block alone change. -/
theorem Own.off {B : Nat} {w w' : World} {p : Option Addr} {n c : Nat} {l : List UInt8} {g : Nat} {v : Value} (h : Own B w (.slice p n c) l) (hf : ∀ j, (Value.slice p n c).ownBlock = some j → j ≠ g ∧ v.ownBlock ≠ some j) (hc : Chg w w' (BgS g v)) : Own B w' (.slice p n c) l := by
  rcases h with h | ⟨gb, cap, e, hB, hl, hm, hx, hs, hfz⟩
  · exact .inl h
  · refine .inr ⟨gb, cap, e, hB, hl, hm, ?_⟩
    injection e with e1 e2 e3
    by_cases h0 : cap = 0
    · subst h0
      exact ⟨fun i x hi => by have := (List.getElem?_eq_some_iff.1 hi).1; omega, fun i hi => by omega, fun i hi => by omega⟩
    · have hlt : gb < w.heap.size := by
        obtain ⟨u, hu⟩ := Option.isSome_iff_exists.1 (hs 0 (by omega))
        exact lt_of_cell hu
      have hn : ¬ BgS g v gb := by
        obtain ⟨h1, h2⟩ := hf gb (by rw [e1]; rfl)
        rintro (rfl | hk)
        · exact h1 rfl
        · exact h2 hk
      have hb := hc.block gb hlt hn
      have hcell : ∀ i, w'.cell? ⟨gb, i, none⟩ = w.cell? ⟨gb, i, none⟩ := fun i => by unfold World.cell?; simp only [hb]
      have hfro : ∀ i, w'.frozen? ⟨gb, i, none⟩ = w.frozen? ⟨gb, i, none⟩ := fun i => by unfold World.frozen?; simp only [hb]
      exact ⟨fun i x hi => by rw [hcell]; exact hx i x hi, fun i hi => by rw [hcell]; exact hs i hi, fun i hi => by rw [hfro]; exact hfz i hi⟩

set_option maxRecDepth 100000 in
theorem new_bag (w : World) : Calls Try.prog 21 #[] w fun e w' => ∃ g, e = .returned (.pointer (some ⟨g, 0, none⟩)) ∧ BgIs w.heap.size w' g (.slice none 0 0) ⟨0, []⟩ ∧ Below w.heap.size w w' := by
  have hb : Below w.heap.size w (w.alloc (.cells #[.bool true, .int .i64 0, .slice none 0 0] 66)) := (Below.refl _ _).alloc (Nat.le_refl _) _
  have hr := heap_alloc_new w (.cells #[.bool true, .int .i64 0, .slice none 0 0] 66)
  have HI : Hid (BgIs w.heap.size (w.alloc (.cells #[.bool true, .int .i64 0, .slice none 0 0] 66)) w.heap.size (.slice none 0 0) ⟨0, []⟩) := hide ⟨Nat.le_refl _, cell_of_row _ _ 0 _ _ (0, 0) hr, cell_of_row _ _ 1 _ _ (0, 0) hr, cell_of_row _ _ 2 _ _ (0, 0) hr, fun i => frozen_of_row _ _ i _ _ hr, ⟨[], OwnP.nil _ _, rfl, by simp⟩, by simp [Value.ownBlock], ⟨by simp, by simp, by simp, by simp, by simp⟩⟩
  have HB := hide hb
  clear hb hr
  go_enter Try.func21, Try.ntmps21
  go_wp2
  go_ret
  exact ⟨_, rfl, HI.out, HB.out⟩

set_option maxRecDepth 100000 in
theorem ok_bag {B : Nat} {w : World} {g : Nat} {v : Value} {x : Bg} (h : BgIs B w g v x) : Calls Try.prog 62 #[.pointer (some ⟨g, 0, none⟩)] w fun e w' => e = .returned (.bool true) ∧ w = w' := by
  have c0 := h.c0
  clear h
  go_enter Try.func62, Try.ntmps62
  go_wp2
  go_ret
  exact ⟨rfl, rfl⟩

def fullB (x : Bg) : Bool := decide (256 ≤ x.ps.length)
set_option maxRecDepth 100000 in
theorem full_bag {B : Nat} {w : World} {g : Nat} {v : Value} {x : Bg} (h : BgIs B w g v x) : Calls Try.prog 60 #[.pointer (some ⟨g, 0, none⟩)] w fun e w' => e = .returned (.bool (fullB x)) ∧ w = w' := by
  have c2 := h.c2
  obtain ⟨E, hE, hD⟩ := h.row
  obtain ⟨p, c, rfl, _⟩ := hE.sl
  have hfew := h.ok.few
  obtain ⟨n, hn⟩ : ∃ n, E.length = n := ⟨_, rfl⟩
  have HG : Hid (fullB x = decide (256 ≤ (n : Int))) := hide (by unfold fullB; rw [← hD.1, hn, decide_eq_decide]; omega)
  rw [hn] at c2
  clear h hE hD hn hfew
  go_enter Try.func60, Try.ntmps60
  go_wp2
  go_ret
  exact ⟨ret_b HG.out, rfl⟩
end Go.Proofs.Ytiiollgipfggmaa
