/- short, and what it says. -/
import Derived.Test.YtiiollgipfggmaaNShort
import Derived.Test.YtiiollgipfggmaaNWtS
namespace Go.Proofs.Ytiiollgipfggmaa
set_option linter.unusedVariables false
set_option linter.unusedSimpArgs false
open Go.RowKit

/-- A call whose messages are few and short. -/
def SmallD (d : Dn) : Prop := d.L.length ≤ 3276 ∧ ∀ m ∈ d.L, SmallM m
def ShPost (D : List Dn) (e : Ending) : Prop := ∃ q, e = .returned (.bool q) ∧ (q = true → D.length ≤ 400 ∧ ∀ d ∈ D, SmallD d)
theorem shD_next {D : List Dn} {k : Nat} {d : Dn} {b x : Int} (hk : D[k]? = some d) (hb : 0 ≤ b) (h : b ≤ 65536 → ∀ d ∈ D.take k, SmallD d) (hx : WtL d.L x) : b + x ≤ 65536 → ∀ d ∈ D.take (k + 1), SmallD d := fun hle y hy => by
  obtain ⟨h1, h2, h3⟩ := hx
  rw [List.take_add_one, hk] at hy
  simp only [Option.toList_some, List.mem_append, List.mem_singleton] at hy
  rcases hy with hy | rfl
  · exact h (by omega) y hy
  · obtain ⟨h4, h5⟩ := h3 (by omega)
    exact ⟨by omega, h5⟩
set_option maxRecDepth 200000 in
set_option maxHeartbeats 4000000 in
theorem shortS_any {w : World} {v : Value} {D : List Dn} (h : Dns w v D) : Calls Try.prog 20 #[v] w fun e w' => ShPost D e ∧ Below w.heap.size w w' := by
  have HD := hide (fun W (hW : Below w.heap.size w W) => h.below hW)
  obtain ⟨p, c, rfl, hlc, hcm, hx⟩ := h
  have hn9 : (D.length : Int) ≤ 9223372036854775807 := by unfold maxLen at hcm; omega
  obtain ⟨n, hn⟩ : ∃ n, D.length = n := ⟨_, rfl⟩
  rw [hn] at hn9 HD ⊢
  have HN := hide hn
  clear hlc hcm hx hn
  go_enter Try.func20, Try.ntmps20
  go_wp2_with fail
  go_loopw [3, 4] (fun a i wr => ∃ (k : Nat) (b : Int), k ≤ n ∧ i = .int .i64 k ∧ a = .int .i64 b ∧ 0 ≤ b ∧ b ≤ 265536 ∧ Hid (Below w.heap.size w wr) ∧ Hid (b ≤ 65536 → ∀ d ∈ D.take k, SmallD d)) (fun _ i _ => n - (intOf i).toNat)
  case atStart => exact ⟨0, 0, by omega, rfl, rfl, by omega, by omega, hide (Below.refl _ _), hide fun _ => by simp⟩
  case round =>
    obtain ⟨k, b, hk, rfl, rfl, hb0, hb1, HB, HS⟩ := hrel
    by_cases hlt : k < n
    · by_cases h4 : (k : Int) ≤ 400
      · have e1 : decide ((k : Int) ≤ 400) = true := decide_eq_true h4
        by_cases hb : b ≤ 65536
        · have e2 : decide (b ≤ 65536) = true := decide_eq_true hb
          have hkL : k < D.length := by have := HN.out; omega
          obtain ⟨d, hd⟩ : ∃ d, D[k]? = some d := ⟨_, List.getElem?_eq_getElem hkL⟩
          obtain ⟨p', c', hpe, _, _, hms⟩ := HD.out wr HB.out
          injection hpe with hpe1 hpe2 hpe3
          subst hpe1 hpe3
          clear hpe2
          obtain ⟨g2, o2, rfl, hmv, hc⟩ := hms k d hd
          obtain ⟨oo, hoo⟩ : ∃ oo, o2 + k * 3 = oo := ⟨_, rfl⟩
          rw [hoo] at hc
          have c2 := hc 2 _ rfl
          have HW := hide (weightS_any hmv)
          have HDD := hide hd
          obtain ⟨dp, hdp⟩ : ∃ x, d.p = x := ⟨_, rfl⟩
          obtain ⟨dn, hdn⟩ : ∃ x, d.n = x := ⟨_, rfl⟩
          obtain ⟨dc, hdc⟩ : ∃ x, d.c = x := ⟨_, rfl⟩
          rw [hdp, hdn, hdc] at c2 HW
          have j0 : (0 : Int) ≤ (k : Int) := by omega
          have j1 : (k : Int) < (n : Int) := by omega
          clear hd hkL hmv hc hms hdp hdn hdc
          go_wp2_with fail
          refine HW.out.mono ?_
          rintro e w5 ⟨⟨x, rfl, hx⟩, hb5⟩
          have HX := hide hx
          have WR : IntKind.i64.wrap (b + x) = b + x := by have := hx.1; have := hx.2.1; rw [IntKind.wrap_i64]; omega
          have HXB : Hid (0 ≤ b + x ∧ b + x ≤ 265536) := hide ⟨by have := hx.1; omega, by have := hx.2.1; omega⟩
          clear hx
          have HB5 := hide (HB.out.trans (hb5.mono HB.out.size))
          clear hb5
          go_wp2
          go_roundw
          case rel => exact ⟨k + 1, b + x, by omega, by go_num, rfl, HXB.out.1, HXB.out.2, HB5, hide (shD_next HDD.out hb0 HS.out HX.out)⟩
          case measure => simp [intOf]; omega
        · have e2 : decide (b ≤ 65536) = false := decide_eq_false hb
          by_cases h5 : (n : Int) ≤ 400
          · have e5 : decide ((n : Int) ≤ 400) = true := decide_eq_true h5
            go_wp2
            go_ret
            exact ⟨⟨_, rfl, fun hq => by cases hq⟩, HB.out⟩
          · have e5 : decide ((n : Int) ≤ 400) = false := decide_eq_false h5
            go_wp2
            go_ret
            exact ⟨⟨_, rfl, fun hq => by cases hq⟩, HB.out⟩
      · have e1 : decide ((k : Int) ≤ 400) = false := decide_eq_false h4
        by_cases hb : b ≤ 65536
        · have e2 : decide (b ≤ 65536) = true := decide_eq_true hb
          by_cases h5 : (n : Int) ≤ 400
          · omega
          · have e5 : decide ((n : Int) ≤ 400) = false := decide_eq_false h5
            go_wp2
            go_ret
            exact ⟨⟨_, rfl, fun hq => by cases hq⟩, HB.out⟩
        · have e2 : decide (b ≤ 65536) = false := decide_eq_false hb
          by_cases h5 : (n : Int) ≤ 400
          · omega
          · have e5 : decide ((n : Int) ≤ 400) = false := decide_eq_false h5
            go_wp2
            go_ret
            exact ⟨⟨_, rfl, fun hq => by cases hq⟩, HB.out⟩
    · by_cases h5 : (n : Int) ≤ 400
      · have e5 : decide ((n : Int) ≤ 400) = true := decide_eq_true h5
        go_wp2
        go_ret
        by_cases hb : b ≤ 65536
        · exact ⟨⟨_, rfl, fun _ => ⟨by have := HN.out; omega, by have h1 := HS.out hb; rwa [List.take_of_length_le (by have := HN.out; omega)] at h1⟩⟩, HB.out⟩
        · exact ⟨⟨_, rfl, fun hq => by simp [hb] at hq⟩, HB.out⟩
      · have e5 : decide ((n : Int) ≤ 400) = false := decide_eq_false h5
        go_wp2
        go_ret
        exact ⟨⟨_, rfl, fun hq => by cases hq⟩, HB.out⟩
end Go.Proofs.Ytiiollgipfggmaa
