/- short. -/
import Derived.Test.YtiiollgipfggmaaNCode
namespace Go.Proofs.Ytiiollgipfggmaa
set_option linter.unusedVariables false
set_option linter.unusedSimpArgs false
open Go.RowKit

/-- A call of a bag: its word, its number, its messages and where they lie. -/
structure Dn where
  op : Int
  id : Int
  p : Option Addr
  n : Nat
  c : Nat
  L : List Ms
/-- Some bool. -/
def SomeB (e : Ending) : Prop := ∃ q, e = .returned (.bool q)
def dnC (d : Dn) : List Value := [.int .i64 d.op, .int .i64 d.id, .slice d.p d.n d.c]
def Dns (w : World) (v : Value) (D : List Dn) : Prop := ∃ (p : Option Addr) (c : Nat), v = .slice p D.length c ∧ D.length ≤ c ∧ c ≤ maxLen ∧ ∀ (k : Nat) d, D[k]? = some d → ∃ g o, p = some ⟨g, o, none⟩ ∧ Mss w (.slice d.p d.n d.c) d.L ∧ ∀ (j : Nat) x, (dnC d)[j]? = some x → w.cell? ⟨g, o + k * 3 + j, none⟩ = some x
theorem Mss.below {w w' : World} {v : Value} {L : List Ms} (h : Mss w v L) (hb : Below w.heap.size w w') : Mss w' v L := by
  obtain ⟨p, c, e, h1, h2, h3⟩ := h
  refine ⟨p, c, e, h1, h2, fun k m hk => ?_⟩
  obtain ⟨g, o, ve, vv, vd, e1, hm, hc⟩ := h3 k m hk
  exact ⟨g, o, ve, vv, vd, e1, hm.below hb, fun j x hj => (hb.cell (lt_of_cell (hc j x hj))).trans (hc j x hj)⟩
theorem Dns.below {w w' : World} {v : Value} {D : List Dn} (h : Dns w v D) (hb : Below w.heap.size w w') : Dns w' v D := by
  obtain ⟨p, c, e, h1, h2, h3⟩ := h
  refine ⟨p, c, e, h1, h2, fun k d hk => ?_⟩
  obtain ⟨g, o, e1, hm, hc⟩ := h3 k d hk
  exact ⟨g, o, e1, hm.below hb, fun j x hj => (hb.cell (lt_of_cell (hc j x hj))).trans (hc j x hj)⟩

set_option maxRecDepth 200000 in
set_option maxHeartbeats 4000000 in
theorem short_any {w : World} {v : Value} {D : List Dn} (h : Dns w v D) : Calls Try.prog 20 #[v] w fun e w' => SomeB e ∧ Below w.heap.size w w' := by
  have HD := hide (fun W (hW : Below w.heap.size w W) => h.below hW)
  obtain ⟨p, c, rfl, hlc, hcm, hx⟩ := h
  have hn9 : (D.length : Int) ≤ 9223372036854775807 := by unfold maxLen at hcm; omega
  obtain ⟨n, hn⟩ : ∃ n, D.length = n := ⟨_, rfl⟩
  rw [hn] at hn9 HD ⊢
  have HN := hide hn
  clear hlc hcm hx hn
  go_enter Try.func20, Try.ntmps20
  go_wp2_with fail
  go_loopw [3, 4] (fun a i wr => ∃ (k : Nat) (b : Int), k ≤ n ∧ i = .int .i64 k ∧ a = .int .i64 b ∧ Hid (Below w.heap.size w wr)) (fun _ i _ => n - (intOf i).toNat)
  case atStart => exact ⟨0, 0, by omega, rfl, rfl, hide (Below.refl _ _)⟩
  case round =>
    obtain ⟨k, b, hk, rfl, rfl, HB⟩ := hrel
    by_cases hlt : k < n
    · by_cases h4 : (k : Int) ≤ 400
      · have e1 : decide ((k : Int) ≤ 400) = true := decide_eq_true h4
        by_cases hb : b ≤ 65536
        · have e2 : decide (b ≤ 65536) = true := decide_eq_true hb
          have hkL : k < D.length := by have := HN.out; omega
          obtain ⟨d, hd⟩ : ∃ d, D[k]? = some d := ⟨_, List.getElem?_eq_getElem hkL⟩
          obtain ⟨p', c', hpe, _, _, hms⟩ := HD.out wr HB.out
          injection hpe with hpe1 hpe2 hpe3
          subst hpe1 hpe3
          clear hpe2
          obtain ⟨g2, o2, rfl, hmv, hc⟩ := hms k d hd
          obtain ⟨oo, hoo⟩ : ∃ oo, o2 + k * 3 = oo := ⟨_, rfl⟩
          rw [hoo] at hc
          have c2 := hc 2 _ rfl
          have HW := hide (weight_any hmv)
          obtain ⟨dp, hdp⟩ : ∃ x, d.p = x := ⟨_, rfl⟩
          obtain ⟨dn, hdn⟩ : ∃ x, d.n = x := ⟨_, rfl⟩
          obtain ⟨dc, hdc⟩ : ∃ x, d.c = x := ⟨_, rfl⟩
          rw [hdp, hdn, hdc] at c2 HW
          have j0 : (0 : Int) ≤ (k : Int) := by omega
          have j1 : (k : Int) < (n : Int) := by omega
          clear hd hkL hmv hc hms hdp hdn hdc
          go_wp2_with fail
          refine HW.out.mono ?_
          rintro e w5 ⟨⟨x, rfl⟩, hb5⟩
          have HB5 := hide (HB.out.trans (hb5.mono HB.out.size))
          clear hb5
          go_wp2
          go_roundw
          case rel => exact ⟨k + 1, _, by omega, by go_num, rfl, HB5⟩
          case measure => simp [intOf]; omega
        · have e2 : decide (b ≤ 65536) = false := decide_eq_false hb
          by_cases h5 : (n : Int) ≤ 400
          · have e5 : decide ((n : Int) ≤ 400) = true := decide_eq_true h5
            go_wp2
            go_ret
            exact ⟨⟨_, rfl⟩, HB.out⟩
          · have e5 : decide ((n : Int) ≤ 400) = false := decide_eq_false h5
            go_wp2
            go_ret
            exact ⟨⟨_, rfl⟩, HB.out⟩
      · have e1 : decide ((k : Int) ≤ 400) = false := decide_eq_false h4
        by_cases hb : b ≤ 65536
        · have e2 : decide (b ≤ 65536) = true := decide_eq_true hb
          by_cases h5 : (n : Int) ≤ 400
          · omega
          · have e5 : decide ((n : Int) ≤ 400) = false := decide_eq_false h5
            go_wp2
            go_ret
            exact ⟨⟨_, rfl⟩, HB.out⟩
        · have e2 : decide (b ≤ 65536) = false := decide_eq_false hb
          by_cases h5 : (n : Int) ≤ 400
          · omega
          · have e5 : decide ((n : Int) ≤ 400) = false := decide_eq_false h5
            go_wp2
            go_ret
            exact ⟨⟨_, rfl⟩, HB.out⟩
    · by_cases h5 : (n : Int) ≤ 400
      · have e5 : decide ((n : Int) ≤ 400) = true := decide_eq_true h5
        go_wp2
        go_ret
        exact ⟨⟨_, rfl⟩, HB.out⟩
      · have e5 : decide ((n : Int) ≤ 400) = false := decide_eq_false h5
        go_wp2
        go_ret
        exact ⟨⟨_, rfl⟩, HB.out⟩
end Go.Proofs.Ytiiollgipfggmaa
