/- Seats: the walk. -/
import Derived.Test.YtfbndbmhnpleoaaTSeats
namespace Go.Proofs.Ytfbndbmhnpleoaa
set_option linter.unusedVariables false
set_option linter.unusedSimpArgs false
open Go.RowKit

/-- What Seats says. -/
def SeatsPost (w : World) (L : List St) (e : Ending) (w' : World) : Prop := ∃ v, e = .returned v ∧ OwnT w.heap.size w' v L ∧ Below w.heap.size w w'

theorem ints_row {B : Nat} {w : World} {v : Value} {n : Nat} {l : List Int} (h : w.ownsRow B 3 1 v n (l.map (Value.int .i64))) : ∃ p c, v = .slice p n c ∧ l.length = n ∧ n ≤ maxLen ∧ (0 < n → ∃ g, p = some ⟨g, 0, none⟩ ∧ g < w.heap.size ∧ ∀ (i : Nat) x, l[i]? = some x → w.cell? ⟨g, i, none⟩ = some (.int .i64 x)) := by
  have hn : l.length = n := by have := h.1; simpa using this
  rcases h.2 with ⟨rfl, rfl⟩ | ⟨g, cap, cur, rfl, hB, hg, hl, hm, hs, ht⟩
  · exact ⟨none, 0, rfl, hn, by simp [maxLen], fun h => by omega⟩
  · refine ⟨_, cap, rfl, hn, by omega, fun _ => ⟨g, rfl, (Array.getElem?_eq_some_iff.1 hg).1, fun i x hx => ?_⟩⟩
    have := h.cells (g := g) rfl i (Value.int .i64 x) (by simp [hx])
    rwa [add_lit0, Nat.zero_add] at this

set_option maxRecDepth 200000 in
set_option maxHeartbeats 2000000 in
theorem seats_any {w : World} {g b : Nat} {L : List St} (h : TbIs w g b L) : Calls Try.prog 15 #[.pointer (some ⟨g, 0, none⟩)] w (SeatsPost w L) := by
  have HM := hide (made_any h.c0)
  have HH := hide h
  have hL8 := h.ok.len
  have HRI := hide h.ok
  clear h
  go_enter Try.func15, Try.ntmps15
  go_wp2_with fail
  refine HM.out.mono ?_
  rintro e X ⟨rfl, hcX⟩
  have hX := HH.out.chg hcX (fun e => e) (fun e => e)
  have c0 := hX.c0
  obtain ⟨D, hD⟩ := hX.map
  have HS := hide (sorted_any hD (by omega))
  have HX := hide hX
  have HCX := hide hcX
  clear hX hD hcX
  go_wp2_with fail
  refine (keys_any _ _).mono ?_
  rintro e w1 ⟨rfl, rfl⟩
  go_wp2_with fail
  refine HS.out.mono ?_
  rintro e w2 ⟨v, rfl, hrow, hb2⟩
  have hll : (L.map (·.s)).length = L.length := by simp
  rw [hll] at hrow
  obtain ⟨p, c, rfl, hlen, hmx, hcl⟩ := ints_row hrow
  have hb : Below X.heap.size X w2 := ((Below.refl _ X).alloc (Nat.le_refl _) _).trans (hb2.mono (by simp))
  have hT2 := HX.out.below hb
  have HT2 := hide hT2
  have hb0 : Below w.heap.size w w2 := Chg.to_below (Below.refl _ _) (HCX.out.belowed hb) (fun k e => e.elim)
  have HB0 := hide hb0
  have HCL := hide hcl
  have hmx' : (L.length : Int) ≤ 9223372036854775807 := by omega
  clear hrow hb2 hT2 hb hb0 hcl hlen hmx hll
  go_wp2
  go_loopw [3, 16] (fun v i wr => ∃ k : Nat, k ≤ L.length ∧ i = .int .i64 k ∧ (∃ p n c, v = .slice p n c) ∧ Hid (OwnT w2.heap.size wr v (L.take k) ∧ Below w2.heap.size w2 wr)) (fun _ i _ => L.length - (intOf i).toNat)
  case atStart => exact ⟨0, by omega, rfl, ⟨_, _, _, rfl⟩, hide ⟨OwnT.nil _ _, Below.refl _ _⟩⟩
  case round =>
    obtain ⟨k, hk, rfl, ⟨p3, n3, c3, rfl⟩, HR⟩ := hrel
    by_cases hlt : k < L.length
    · obtain ⟨y, hy⟩ : ∃ y, L[k]? = some y := ⟨_, List.getElem?_eq_getElem hlt⟩
      have hpos : 0 < L.length := by omega
      obtain ⟨gk, rfl, hgk, hc⟩ := HCL.out hpos
      have hck := hc k y.s (by simp [hy])
      have hTr := HT2.out.below HR.out.2
      have hckr : wr.cell? ⟨gk, k, none⟩ = some (.int .i64 y.s) := (HR.out.2.cell (p := ⟨gk, k, none⟩) hgk).trans hck
      have c0r := hTr.c0
      obtain ⟨Dr, hDr⟩ := hTr.map
      have hym : y ∈ L := List.mem_of_getElem? hy
      have hyk := (St.ok_iff.1 (HRI.out.ok y hym)).1
      have hl := (hDr.look (k := y.s) (wf40 (by omega) (by omega)) 0).2
      rw [fndT_of HRI.out.rises.ids hym, Option.getD_some] at hl
      have hl' : (Instr.lookup 54 (.map (some b)) (.int .i64 y.s) false).run Try.prog wr = .ok (stV y) wr := hl
      have HTK : Hid (L.take (k + 1) = L.take k ++ [y]) := hide (by rw [List.take_add_one, hy]; rfl)
      have HTL : Hid ((L.take k).length ≤ 1000000) := hide (by rw [List.length_take]; omega)
      obtain ⟨s, q, a, ⟨e1, e2, e3, e4, e5, e6, e7, e8⟩⟩ := y
      unfold stV at hl'
      dsimp only at *
      clear hl hDr hTr hym hck hc hy
      go_wp2_with (at_builtin; go_loud (refine wpList_pushT (w := wr) (v := .slice p3 n3 c3) (l := L.take k) (B := w2.heap.size) (H := wr.heap.size) rfl (.tmp 20) (.tmp 27) rfl rfl ⟨s, q, a, ⟨e1, e2, e3, e4, e5, e6, e7, e8⟩⟩ rfl rfl rfl HR.out.1 HR.out.2.size HTL.out ?_); intro v5 w5 ho5 hb5 hg5)
      obtain ⟨p5, n5, c5, rfl⟩ := ho5.sts.sl
      have HO5 := hide ho5
      have HB5 := hide (HR.out.2.trans hb5)
      clear ho5 hb5 hg5
      go_wp2
      go_roundw
      case rel => exact ⟨k + 1, by omega, by go_num, ⟨_, _, _, rfl⟩, hide ⟨by rw [HTK.out]; exact HO5.out, HB5.out⟩⟩
      case measure => simp [intOf]; omega
    · go_wp2
      go_ret
      have e : L.take k = L := List.take_of_length_le (by omega)
      have ho := HR.out.1
      rw [e] at ho
      exact ⟨_, rfl, ho.mono HB0.out.size, HB0.out.trans (HR.out.2.mono HB0.out.size)⟩
end Go.Proofs.Ytfbndbmhnpleoaa
