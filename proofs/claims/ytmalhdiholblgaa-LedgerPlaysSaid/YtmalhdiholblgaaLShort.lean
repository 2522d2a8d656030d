/- short. -/
import Derived.Test.YtmalhdiholblgaaLDos
namespace Go.Proofs.Ytmalhdiholblgaa
set_option linter.unusedVariables false
set_option linter.unusedSimpArgs false
open Go.RowKit

theorem Try.infoSl : (Try.prog.info? 22).map (fun i => (i.zero, i.size, i.bytes)) = some (some (.slice none 0 0), 1, 24) := by kernel_rfl
/-- Slices in a row of the call's own. -/
def OwnSl (B : Nat) (w : World) (v : Value) (vs : List Value) : Prop := w.ownsRow B 22 1 v vs.length vs
theorem OwnSl.nil (B : Nat) (w : World) : OwnSl B w (.slice none 0 0) [] := World.ownsRow_nil _ _ _ _
theorem OwnSl.below {B : Nat} {w w' : World} {v : Value} {l : List Value} (h : OwnSl B w v l) (hb : Below w.heap.size w w') : OwnSl B w' v l := World.ownsRow.kept (row := none) h ⟨hb.os, hb.tape, hb.output, hb.size, fun k hk _ => hb.block k hk⟩ (by cases v.ownBlock <;> simp)
theorem OwnSl.at_ {B : Nat} {w : World} {v : Value} {l : List Value} (h : OwnSl B w v l) : ∃ p c, v = .slice p l.length c ∧ ∀ (i : Nat) u, l[i]? = some u → ∃ g, p = some ⟨g, 0, none⟩ ∧ w.cell? ⟨g, i, none⟩ = some u := by
  obtain ⟨hl, ⟨rfl, h0⟩ | ⟨g, cap, cur, rfl, hB, hh, hc, hm, hs, ht⟩⟩ := h
  · obtain rfl : l = [] := List.eq_nil_of_length_eq_zero h0
    exact ⟨none, 0, rfl, fun i u hi => by simp at hi⟩
  · refine ⟨_, cap, rfl, fun i u hi => ⟨g, rfl, ?_⟩⟩
    have hil := (List.getElem?_eq_some_iff.1 hi).1
    rw [cell_of_row w g i cur _ (0, 0) hh]
    rw [← ht, List.getElem?_take_of_lt (by omega), Array.getElem?_toList] at hi
    exact hi
theorem OwnSl.sl {B : Nat} {w : World} {v : Value} {l : List Value} (h : OwnSl B w v l) : ∃ p n c, v = .slice p n c := by
  obtain ⟨p, c, e, _⟩ := h.at_
  exact ⟨p, _, c, e⟩
theorem run_pushSl {B : Nat} {w : World} {v : Value} {l : List Value} (h : OwnSl B w v l) (p : Option Addr) (n c : Nat) (hB : B ≤ w.heap.size) (hs : l.length ≤ 1000000) :
    ∃ v' w', (Builtin.append_ #[59, 59] 59 #[v, .slice (some ⟨w.heap.size, 0, none⟩) 1 1]).run Try.prog (w.alloc (.cells #[.slice p n c] 22)) = .ok v' w' ∧ OwnSl B w' v' (l ++ [.slice p n c]) ∧ Below B w w' := by
  obtain ⟨i0, hi0, hz0, hz1, hz2⟩ := info_parts Try.infoSl
  have ho' := World.ownsRow.alloc h (.cells #[.slice p n c] 22)
  obtain ⟨v', w', hr, h1, h2, _, h4⟩ := run_append_own_at (P := Try.prog) (w.alloc (.cells #[.slice p n c] 22)) B 59 59 22 i0 _ 1 24 Try.underlying59 hi0 hz0 hz1 hz2 rfl (by decide) v l.length l ho' ⟨w.heap.size, 0, none⟩ 1 1 [.slice p n c] rfl
    (fun j u hj => by
      rw [add_lit0, Nat.zero_add, cell_of_row _ w.heap.size j _ 22 (0, 0) (heap_alloc_new w _)]
      simpa using hj)
    (fun u hu => by
      simp at hu
      subst hu
      rfl) (by simp only [maxLen]; omega) (by omega) (by simp; omega)
  have hb0 : Below B w (w.alloc (.cells #[.slice p n c] 22)) := (Below.refl _ _).alloc hB _
  refine ⟨v', w', hr, ?_, hb0.grown h2 (by simp; omega) fun k hk => (World.ownsRow.lt h k hk).1⟩
  unfold OwnSl
  rw [List.length_append]
  exact h1
theorem wpList_pushSl {w : World} {ops : Array Oper} {rest : List Oper} {o : Oper} {a : Act} {Q : Exit → Act → World → Prop} (hgd : o.guard = none) (s t : Operand)
    (ho : o.op = .call { callee := .builtin .append, args := #[s, t], argTypes := #[59, 59] }) (hty : o.type = 59) {B : Nat} {v : Value} {l : List Value} (p : Option Addr) (n c : Nat) {H : Nat}
    (hs : a.eval s = v) (ht : a.eval t = .slice (some ⟨H, 0, none⟩) 1 1) (hH : H = w.heap.size) (h : OwnSl B w v l) (hB : B ≤ w.heap.size) (hn : l.length ≤ 1000000)
    (hK : ∀ v' w', OwnSl B w' v' (l ++ [.slice p n c]) → Below B w w' → wpList Try.prog ops Q rest (a.put o.dst v') w') : wpList Try.prog ops Q (o :: rest) a (w.alloc (.cells #[.slice p n c] 22)) := by
  subst hH
  obtain ⟨v', w', hr, h1, h2⟩ := run_pushSl h p n c hB hn
  exact Lib.wpList_append_run_sl _ hgd s t 59 ho v _ hs ht (by rw [hty]; exact hr) (hK v' w' h1 h2)
def slD (d : Dp) : Value := .slice d.p d.nl d.c
theorem OwnSl.enss {B : Nat} {w : World} {v : Value} {D : List Dp} (h : OwnSl B w v (D.map slD)) (h9 : D.length ≤ 100) (hd : ∀ d ∈ D, Ens w (.slice d.p d.nl d.c) d.l) : Enss w v (D.map Dp.l) := by
  obtain ⟨p, c, rfl, hx⟩ := h.at_
  refine ⟨p, c, by simp, by simpa using h9, fun i l hi => ?_⟩
  rw [List.getElem?_map] at hi
  obtain ⟨d, hd1, rfl⟩ := Option.map_eq_some_iff.1 hi
  obtain ⟨g, hp, hc⟩ := hx i (slD d) (by rw [List.getElem?_map, hd1]; rfl)
  exact ⟨g, 0, slD d, hp, by rw [Nat.zero_add]; exact hc, hd d (List.mem_of_getElem? hd1)⟩
def shortD (D : List Dp) : Bool := decide (D.length ≤ 60) && lightL (D.map Dp.l)

set_option maxRecDepth 200000 in
set_option maxHeartbeats 4000000 in
theorem short_any {w : World} {p : Option Addr} {n c : Nat} {D : List Dp} (h : Dts w p n c D) (hz : ∀ d ∈ D, d.l.length * 40 ≤ 140737488351232) : Calls Try.prog 7 #[.slice p n c] w fun e w' => e = .returned (.bool (shortD D)) ∧ Below w.heap.size w w' := by
  have HD := hide h
  have HZ := hide hz
  obtain ⟨hn, hc, hm, hat, hok⟩ := h
  subst hn
  have hl9 : (D.length : Int) ≤ 9223372036854775807 := by unfold maxLen at hm; omega
  clear hat hok hz hc hm
  go_enter Try.func7, Try.ntmps7
  go_wp2_with fail
  go_loopw [3, 4] (fun u j wr => ∃ k : Nat, k ≤ D.length ∧ k ≤ 61 ∧ j = .int .i64 k ∧ (∃ p n c, u = .slice p n c) ∧ Hid (OwnSl w.heap.size wr u ((D.take k).map slD) ∧ Below w.heap.size w wr)) (fun _ j _ => 61 - (intOf j).toNat)
  case atStart => exact ⟨0, by omega, by omega, rfl, ⟨_, _, _, rfl⟩, hide ⟨OwnSl.nil _ _, Below.refl _ _⟩⟩
  case round =>
    obtain ⟨k, hk, hk61, rfl, ⟨pu, nu, cu, rfl⟩, HR⟩ := hrel
    by_cases hlt : k < D.length
    · by_cases hl6 : k ≤ 60
      · obtain ⟨d, hd⟩ : ∃ d, D[k]? = some d := ⟨_, List.getElem?_eq_getElem hlt⟩
        obtain ⟨g, o, rfl, hat⟩ := (HD.out.below HR.out.2).2.2.2.1 k d hd
        obtain ⟨kk, hkk⟩ : ∃ kk, k * 4 = kk := ⟨_, rfl⟩
        rw [hkk] at hat
        have c3 := hat 3 _ rfl
        have HT : Hid ((D.take (k + 1)).map slD = (D.take k).map slD ++ [.slice d.p d.nl d.c]) := hide (by rw [List.take_add_one, hd, List.map_append]; rfl)
        obtain ⟨pd, nd, cd, hpd⟩ : ∃ pd nd cd, Value.slice d.p d.nl d.c = .slice pd nd cd := ⟨_, _, _, rfl⟩
        rw [hpd] at c3 HT
        have HL : Hid (((D.take k).map slD).length ≤ 1000000) := hide (by rw [List.length_map, List.length_take]; omega)
        have e1 : decide ((k : Int) < (D.length : Int)) = true := decide_eq_true (by omega)
        have e2 : decide ((k : Int) ≤ 60) = true := decide_eq_true (by omega)
        have j0 : (0 : Int) ≤ (k : Int) := by omega
        have j1 : (k : Int) < (D.length : Int) := by omega
        clear hd hat hpd
        go_wp2_with (at_builtin; go_loud (refine wpList_pushSl (w := wr) (v := .slice pu nu cu) (l := (D.take k).map slD) (B := w.heap.size) (H := wr.heap.size) rfl (.tmp 15) (.tmp 21) rfl rfl pd nd cd rfl rfl rfl HR.out.1 HR.out.2.size HL.out ?_); intro v6 w6 ho6 hb6; obtain ⟨p6, n6, c6, rfl⟩ := ho6.sl; have HO6 := hide ho6; have HB6 := hide (HR.out.2.trans hb6); clear ho6 hb6)
        go_roundw
        case rel => exact ⟨k + 1, by omega, by omega, by go_num, ⟨_, _, _, rfl⟩, hide ⟨by rw [HT.out]; exact HO6.out, HB6.out⟩⟩
        case measure => simp [intOf]; omega
      · have e1 : decide ((k : Int) < (D.length : Int)) = true := decide_eq_true (by omega)
        have e2 : decide ((k : Int) ≤ 60) = false := decide_eq_false (by omega)
        have e3 : decide ((D.length : Int) ≤ 60) = false := decide_eq_false (by omega)
        have HX : Hid (shortD D = false) := hide (by
          unfold shortD
          rw [decide_eq_false (by omega), Bool.false_and])
        go_wp2
        go_ret
        exact ⟨ret_b HX.out, HR.out.2⟩
    · have hkl : k = D.length := by omega
      by_cases h60 : D.length ≤ 60
      · have e1 : decide ((k : Int) < (D.length : Int)) = false := decide_eq_false (by omega)
        have e3 : decide ((D.length : Int) ≤ 60) = true := decide_eq_true (by omega)
        have HLI : Hid (Calls Try.prog 6 #[.slice pu nu cu] wr fun e w' => e = .returned (.bool (lightL (D.map Dp.l))) ∧ wr = w') := hide (light_any (by
          have h := HR.out.1
          rw [hkl, List.take_length] at h
          exact h.enss (by omega) fun d hd => ((HD.out.2.2.2.2 d hd).ens).below HR.out.2) fun l hl => by
            obtain ⟨d, hd, rfl⟩ := List.mem_map.1 hl
            have := HZ.out d hd
            omega)
        have HX : Hid (shortD D = lightL (D.map Dp.l)) := hide (by
          unfold shortD
          rw [decide_eq_true h60, Bool.true_and])
        clear h60 hkl
        go_wp2_with fail
        refine HLI.out.mono ?_
        rintro e w7 ⟨rfl, rfl⟩
        go_wp2
        go_ret
        exact ⟨ret_b HX.out, HR.out.2⟩
      · have e1 : decide ((k : Int) < (D.length : Int)) = false := decide_eq_false (by omega)
        have e3 : decide ((D.length : Int) ≤ 60) = false := decide_eq_false (by omega)
        have HX : Hid (shortD D = false) := hide (by
          unfold shortD
          rw [decide_eq_false h60, Bool.false_and])
        clear h60 hkl
        go_wp2
        go_ret
        exact ⟨ret_b HX.out, HR.out.2⟩
end Go.Proofs.Ytmalhdiholblgaa
