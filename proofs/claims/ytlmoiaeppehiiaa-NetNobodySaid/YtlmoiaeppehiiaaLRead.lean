/- What a ledger tells: the program's. -/
import Derived.Test.YtlmoiaeppehiiaaLNew
import Derived.Deep.QuietTactic
import Derived.BigQuiet
import Derived.IntWalk
namespace Go.Proofs.Ytlmoiaeppehiiaa
set_option linter.unusedVariables false
set_option linter.unusedSimpArgs false
open Go.RowKit

theorem ret_tb {p : Int × Bool} {a : Int} {b : Bool} (h : p = (a, b)) : Ending.returned (.tuple #[.int .i64 a, .bool b]) = .returned (.tuple #[.int .i64 p.1, .bool p.2]) := by rw [h]
theorem LgIs.bounds {w : World} {g : Nat} {x : Lg} (h : LgIs w g x) : 0 ≤ x.ix ∧ x.ix ≤ 1099511627776 ∧ 0 ≤ x.tm ∧ x.tm ≤ 1099511627776 := good_le h.ok.good

theorem LgIs.on_get {w : World} {g : Nat} {x : Lg} (h : LgIs w g x) : ∀ (k : Nat) e, x.l[k]? = some e → e.i = x.ix + k + 1 ∧ e.i ≤ 1099511627776 ∧ x.tm ≤ e.t ∧ 0 < e.t ∧ e.t ≤ 1099511627776 ∧ e.d.length ≤ 4096 := goOn_get h.ok.on h.bounds.1 h.bounds.2.1
theorem made_any {w : World} {g : Nat} {x : Lg} (h : LgIs w g x) : Calls Try.prog 107 #[.pointer (some ⟨g, 0, none⟩)] w fun e w' => e = .returned (.bool true) ∧ w = w' := by
  have c3 := h.c3
  clear h
  go_enter Try.func107, Try.ntmps107
  go_wp2
  go_ret
  exact ⟨rfl, rfl⟩

/-- The entries of a ledger. -/
structure Ents (w : World) (g : Nat) (x : Lg) (p : Option Addr) (c : Nat) : Prop where
  c2 : w.cell? ⟨g, 2, none⟩ = some (.slice p x.l.length c)
  ens : Ens w (.slice p x.l.length c) x.l
theorem LgIs.ents {w : World} {g : Nat} {x : Lg} (h : LgIs w g x) : ∃ p c, Ents w g x p c := by
  obtain ⟨p, n, c, h1, h2⟩ := h.c2
  obtain ⟨rfl, _⟩ := h2.len
  exact ⟨p, c, h1, h2⟩

set_option maxRecDepth 100000 in
set_option maxHeartbeats 2000000 in
theorem end_any {w : World} {g : Nat} {x : Lg} (h : LgIs w g x) : Calls Try.prog 108 #[.pointer (some ⟨g, 0, none⟩)] w fun e w' => e = .returned (.agg #[.int .i64 x.end_.1, .int .i64 x.end_.2]) ∧ Below w.heap.size w w' := by
  obtain ⟨p, c, hE⟩ := h.ents
  have hfew := h.few
  have b1 : Below w.heap.size w (w.alloc (.cells #[.int .i64 0, .int .i64 0] 137)) := (Below.refl _ _).alloc (Nat.le_refl _) _
  have hX := Box2.new w 0 0 137
  obtain ⟨Y, hY⟩ : ∃ Y, w.alloc (.cells #[.int .i64 0, .int .i64 0] 137) = Y := ⟨_, rfl⟩
  rw [hY] at b1 hX
  have h1 := h.below b1
  have d0 := h1.c0
  have d1 := h1.c1
  have d2 := (b1.cell (lt_of_cell hE.c2)).trans hE.c2
  have HENS := hide (hE.ens.below b1)
  obtain ⟨f0, f1, f2, f3⟩ := hX
  obtain ⟨b, hb⟩ : ∃ b, w.heap.size = b := ⟨_, rfl⟩
  rw [hb] at f0 f1 f2 f3 b1
  have HB := hide b1
  have HX : Hid (Box2 Y b 0 0) := hide ⟨f0, f1, f2, f3⟩
  have HG := hide (lt_of_cell d0)
  by_cases h0 : x.l.length = 0
  · have HXE : Hid (x.end_ = (x.ix, x.tm)) := hide (Lg.end_nil h0)
    rw [h0] at d2
    have HGR := hide (gtrans (grown_set Y b 0 (.int .i64 x.ix)) (grown_set (Y.setCell ⟨b, 0, none⟩ (.int .i64 x.ix)) b 1 (.int .i64 x.tm)))
    have HS := hide (HX.out.set x.ix x.tm)
    have HBZ : Hid (Below b w ((Y.setCell ⟨b, 0, none⟩ (.int .i64 x.ix)).setCell ⟨b, 1, none⟩ (.int .i64 x.tm))) := hide (b1.grown HGR.out (by have := b1.size; omega) fun k hk => by cases hk; exact Nat.le_refl _)
    clear h hE h1 b1 hfew h0
    go_enter Try.func108, Try.ntmps108
    go_wp2
    have HR := HS.out
    exact bodyPost_ret (v := .agg #[.int .i64 x.ix, .int .i64 x.tm]) (by simp [results, Try.results108, go_sem, HR.1, HR.2.1]) rfl ⟨by rw [HXE.out], by first | exact HBZ.out | (rw [hb]; exact HBZ.out)⟩
  · obtain ⟨m, hm⟩ : ∃ m, x.l.length = m + 1 := ⟨x.l.length - 1, by omega⟩
    obtain ⟨n1, hn1⟩ : ∃ n1, x.l.length = n1 := ⟨_, rfl⟩
    have he := List.getElem?_eq_getElem (l := x.l) (i := m) (by omega)
    obtain ⟨e, hee⟩ : ∃ e, x.l[m]'(by omega) = e := ⟨_, rfl⟩
    rw [hee] at he
    have HXE : Hid (x.end_ = (e.i, e.t)) := hide (Lg.end_get he (by omega))
    obtain ⟨g2, o2, pd, nd, cd, rfl, hat, hby, hnd⟩ := HENS.out.at_ he
    clear hby hnd
    rw [hn1] at d2
    obtain ⟨oo, hoo⟩ : ∃ oo, o2 + m * 3 = oo := ⟨_, rfl⟩
    rw [hoo] at hat
    have c0 := hat.c0
    have c1 := hat.c1
    have c2 := hat.c2
    dsimp only at c0 c1 c2
    have hm9 : (m : Int) ≤ 1000000 := by omega
    have es : IntKind.i64.wrap ((n1 : Int) - 1) = (m : Int) := by rw [IntKind.wrap_i64]; omega
    have j0 : (0 : Int) ≤ (m : Int) := by omega
    have j1 : (m : Int) < (n1 : Int) := by omega
    have j2 : (n1 : Int) ≤ 1000000 := by omega
    have e0 : ((n1 : Int) == 0) = false := by simp; omega
    have HEND : Hid (∀ W, Calls Try.prog 111 #[.agg #[.int .i64 e.i, .int .i64 e.t, .slice pd nd cd]] W fun e' w' => e' = .returned (.agg #[.int .i64 e.i, .int .i64 e.t]) ∧ Below W.heap.size W w') := hide fun W => endOf_any
    obtain ⟨_, _, _, _, _, hp9, hat9, _, _⟩ := hE.ens.at_ he
    injection hp9 with hp9
    injection hp9 with hp9 hp8
    have hg2 : g2 < w.heap.size := by
      have := lt_of_cell hat9.c0
      rw [← hp9] at this
      exact this
    have hg1 : g < w.heap.size := lt_of_cell hE.c2
    have kp : ∀ V, Below b w V → V.cell? ⟨g, 2, none⟩ = some (.slice (some ⟨g2, o2, none⟩) n1 c) ∧ V.cell? ⟨g2, oo, none⟩ = some (.int .i64 e.i) ∧ V.cell? ⟨g2, oo + 1, none⟩ = some (.int .i64 e.t) ∧ V.cell? ⟨g2, oo + 2, none⟩ = some (.slice pd nd cd) := fun V hV => by
      have q : ∀ (k o : Nat), k < w.heap.size → V.cell? ⟨k, o, none⟩ = Y.cell? ⟨k, o, none⟩ := fun k o hk => (hV.cell (p := ⟨k, o, none⟩) (by rw [← hb]; exact hk)).trans (HB.out.cell (p := ⟨k, o, none⟩) (by rw [← hb]; exact hk)).symm
      exact ⟨(q _ _ hg1).trans d2, (q _ _ hg2).trans c0, (q _ _ hg2).trans c1, (q _ _ hg2).trans c2⟩
    have KEEP := hide kp
    clear h hE h1 b1 hfew h0 he hee hat kp hm hn1 hat9 hp9 hp8 hg2 hg1
    go_enter Try.func108, Try.ntmps108
    go_wp2_with fail
    go_region_held3 (fun V => V.cell? ⟨g, 2, none⟩ = some (.slice (some ⟨g2, o2, none⟩) n1 c) ∧ V.cell? ⟨g2, oo, none⟩ = some (.int .i64 e.i) ∧ V.cell? ⟨g2, oo + 1, none⟩ = some (.int .i64 e.t) ∧ V.cell? ⟨g2, oo + 2, none⟩ = some (.slice pd nd cd)) (first | go_keep | exact KEEP.out _ HBO.out | exact KEEP.out _ HBP.out)
      ((go_at_call 111; (refine (HEND.out _).mono ?_); rintro e9 w5 ⟨rfl, hb5⟩; have HBY : Hid (Below Y.heap.size Y w5) := hide ((bel_drewN (Below.refl _ Y) 1).trans hb5); have HX5 := hide (HX.out.below HBY.out); have HBO : Hid (Below b w w5) := hide (HB.out.trans (HBY.out.mono (by have := HB.out.size; omega))); have HBP : Hid (Below b w ((w5.setCell ⟨b, 0, none⟩ (.int .i64 e.i)).setCell ⟨b, 1, none⟩ (.int .i64 e.t))) := hide (HBO.out.grown (gtrans (grown_set _ _ _ _) (grown_set _ _ _ _)) (by have := HBO.out.size; omega) fun k hk => by cases hk; exact Nat.le_refl _); obtain ⟨r0, r1, r2, r3⟩ := HX5.out; clear hb5))
    have HS := hide (HX5.out.set e.i e.t)
    go_wp2
    have HR := HS.out
    exact bodyPost_ret (v := .agg #[.int .i64 e.i, .int .i64 e.t]) (by simp [results, Try.results108, go_sem, HR.1, HR.2.1]) rfl ⟨by rw [HXE.out], by first | exact HBP.out | (rw [hb]; exact HBP.out)⟩

/-- A box of two numbers is laid and read. -/
theorem last_any {w : World} {g : Nat} {x : Lg} (h : LgIs w g x) : Calls Try.prog 101 #[.pointer (some ⟨g, 0, none⟩)] w fun e w' => e = .returned (.tuple #[.int .i64 x.end_.1, .int .i64 x.end_.2]) ∧ Below w.heap.size w w' := by
  have HM := hide (made_any h)
  have HE := hide (end_any h)
  obtain ⟨a, ha⟩ : ∃ a, x.end_.1 = a := ⟨_, rfl⟩
  obtain ⟨b, hb⟩ : ∃ b, x.end_.2 = b := ⟨_, rfl⟩
  rw [ha, hb] at HE
  rw [ha, hb]
  clear h ha hb
  go_enter Try.func101, Try.ntmps101
  go_wp2_with fail
  refine HM.out.mono ?_
  rintro e w9 ⟨rfl, rfl⟩
  go_wp2_with fail
  refine HE.out.mono ?_
  rintro e w2 ⟨rfl, hb2⟩
  have HB2 := hide (hb2.alloc hb2.size (.cells #[.int .i64 a, .int .i64 b] 137))
  clear hb2
  go_wp2_with fail
  go_quiet (fail)
  go_wp2
  go_ret2
  exact ⟨rfl, bel_drewN HB2.out _⟩

theorem field0 (a b : Int) (W : World) : (Instr.field 137 (.agg #[.int .i64 a, .int .i64 b]) 0).run Try.prog W = .ok (.int .i64 a) W := by kernel_rfl
def hasI (x : Lg) (n : Int) : Bool := decide (x.ix < n) && decide (n ≤ x.ix + x.l.length)
/-- What Term says. -/
def termI (x : Lg) (n : Int) : Int × Bool := x.at_ n
def freshI (x : Lg) (index term : Int) : Bool := decide (x.end_.2 < term) || (decide (term = x.end_.2) && decide (x.end_.1 ≤ index))
end Go.Proofs.Ytlmoiaeppehiiaa
