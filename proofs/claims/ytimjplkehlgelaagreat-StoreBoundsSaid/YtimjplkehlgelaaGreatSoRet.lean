/- Retain. -/
import Derived.Test.YtimjplkehlgelaaGreatSoIng
namespace Go.Proofs.YtimjplkehlgelaaGreat
set_option linter.unusedVariables false
set_option linter.unusedSimpArgs false
open Go.RowKit

theorem keyR_inv {key : Value} {kl : Lit} (h : keyOf Tryz.prog 3 key = some kl) : ∃ x : Int, key = .int .i64 x := keyI_inv h
/-- What comes out of a range over a store's map. -/
theorem RdR.came {D : DataW Value} {R : List Tr} (h : RdR D R) {k : Int} {a : Option Addr} {kl : Lit} {y : DataW Value × List MemPlace}
    (hk : keyOf Tryz.prog 3 (.int .i64 k) = some kl) (hv : heldP (.pointer a) = some y) (hat : ∀ zd, D.atKey kl zd = y.1) : ∃ x, x ∈ R ∧ k = x.t ∧ kl = .int .i64 x.t ∧ a = some ⟨x.g, 0, none⟩ := by
  obtain ⟨k', e, hkl, hwf⟩ := Maps.keyOf_int_inv Tryz.underlying3 hk
  injection e with _ e
  subst e
  subst hkl
  have hh := Maps.has_true_of_atKey hat
  rw [h.keys] at hh
  obtain ⟨x, hx⟩ := Option.isSome_iff_exists.1 hh
  have e1 := h.vals _ x hx .nil
  rw [hat, (heldP_ptr hv).2] at e1
  injection e1 with e1
  injection e1 with e1
  obtain ⟨h1, h2⟩ := fndK_mem hx
  exact ⟨x, h1, h2.symm, by rw [show x.t = k from h2], e1⟩
theorem RdR.del {D : DataW Value} {R : List Tr} (h : RdR D R) (ht : Maps.Tidy D) {x : Tr} (hx : x ∈ R) : RdR (D.del (.int .i64 x.t)) (R.filter fun y => decide (y.t ≠ x.t)) := by
  have hf : fndK kR R x.t = some x := fndK_of h.rises.ids hx
  refine ⟨?_, fun k => ?_, fun k y hy => ?_, h.rises.sub List.filter_sublist⟩
  · have h1 := Maps.size_del (k := .int .i64 x.t) ht
    rw [h.keys, hf, h.size] at h1
    have h2 : (R.filter fun y => decide (y.t ≠ x.t)).length + 1 = R.length := delK_filter h.rises hx
    simp at h1
    omega
  · rw [fndK_filter h.rises.ids]
    by_cases e : k = x.t
    · subst e
      rw [Maps.has_del_same, hf]
      simp [Option.filter_some]
    · rw [Maps.has_del_other (fun h => e (by injection h)), h.keys]
      cases hk : fndK kR R k with
      | none => rfl
      | some y =>
        have : y.t = k := (fndK_mem hk).2
        simp [this, e, Option.filter_some]
  · rw [fndK_filter h.rises.ids] at hy
    intro z
    have hne : k ≠ x.t := by
      intro e
      subst e
      rw [hf, Option.filter_some] at hy
      simp at hy
    rw [Maps.atKey_del_other (fun h => hne (by injection h))]
    refine h.vals k y ?_ z
    cases hk : fndK kR R k with
    | none => rw [hk] at hy; simp at hy
    | some u =>
      rw [hk, Option.filter_some] at hy
      split at hy
      · exact hy
      · simp at hy

/-- The traces that stay. -/
def retR (R : List Tr) (f : Int) : List Tr := R.filter fun x => decide (f ≤ endP x.L)
theorem retR_pl (R : List Tr) (f : Int) : (retR R f).map Tr.pl = retS (R.map Tr.pl) f := by
  unfold retR retS
  rw [List.filter_map]
  rfl
/-- The traces that are there while a range goes on. -/
def curR (R : List Tr) (left : Lit → Bool) (f : Int) : List Tr := R.filter fun x => left (.int .i64 x.t) || decide (f ≤ endP x.L)
theorem curR_all {R : List Tr} {left : Lit → Bool} {f : Int} (h : ∀ x ∈ R, left (.int .i64 x.t) = true) : curR R left f = R := List.filter_eq_self.2 fun x hx => by rw [h x hx]; rfl
theorem curR_none {R : List Tr} {left : Lit → Bool} {f : Int} (h : ∀ k, left k = false) : curR R left f = retR R f := List.filter_congr fun x hx => by rw [h]; rfl
theorem curR_stay {R : List Tr} (h : RisesK kR R) {left : Lit → Bool} {f : Int} {x : Tr} (hx : x ∈ R) (hf : f ≤ endP x.L) : curR R (fun z => left z && !z.sameKey (.int .i64 x.t)) f = curR R left f := by
  refine List.filter_congr fun y hy => ?_
  dsimp only
  rw [same_int]
  by_cases e : y.t = x.t
  · obtain rfl := eq_of_idK h hy hx e
    simp [hf]
  · simp [e]
theorem curR_go {R : List Tr} (h : RisesK kR R) {left : Lit → Bool} {f : Int} {x : Tr} (hx : x ∈ R) (hf : endP x.L < f) : curR R (fun z => left z && !z.sameKey (.int .i64 x.t)) f = (curR R left f).filter fun y => decide (y.t ≠ x.t) := by
  unfold curR
  rw [List.filter_filter]
  refine List.filter_congr fun y hy => ?_
  dsimp only
  rw [same_int]
  by_cases e : y.t = x.t
  · obtain rfl := eq_of_idK h hy hx e
    simp
    omega
  · simp [e]
theorem curR_mem {R : List Tr} {left : Lit → Bool} {f : Int} {x : Tr} (hx : x ∈ R) (hl : left (.int .i64 x.t) = true) : x ∈ curR R left f := List.mem_filter.2 ⟨hx, by rw [hl]; rfl⟩
theorem curR_le (R : List Tr) (left : Lit → Bool) (f : Int) : (curR R left f).length ≤ R.length := List.length_filter_le _ _
theorem SoIs.filter {w w' : World} {gs bm : Nat} {R : List Tr} (h : SoIs w gs bm R) (f : Int) {D : DataW Value} (hc : Chg w w' fun k => k = bm) (hm : TrIs w' bm (retR R f) D) : SoTo w w' gs bm R (retR R f) (retS (R.map Tr.pl) f) := by
  have hmem : ∀ x ∈ retR R f, x ∈ R := fun x hx => (List.mem_filter.1 hx).1
  refine ⟨⟨hc.cell h.c0 h.ne, h.ne, ⟨D, hm⟩, fun x hx => (h.fo x (hmem x hx)).chg hc (h.off x (hmem x hx)).2.1 (h.off x (hmem x hx)).2.2.2, fun x hx => h.off x (hmem x hx), fun x hx y hy => h.ap x (hmem x hx) y (hmem y hy), ?_⟩, retR_pl R f, hc.mono fun k hk => .inl hk, fun k hk => ?_⟩
  · rw [retR_pl]
    exact retS_ok h.ok f
  · rcases hk with h1 | h1 | ⟨x, hx, h1⟩
    · exact .inl (.inl h1)
    · exact .inl (.inr (.inl h1))
    · exact .inl (.inr (.inr ⟨x, hmem x hx, h1⟩))
/-- What Retain says. -/
def RetPost (w : World) (gs bm : Nat) (R : List Tr) (f : Int) (e : Ending) (w' : World) : Prop := e = .returned (.int .i64 ((R.length : Int) - (retR R f).length)) ∧ SoTo w w' gs bm R (retR R f) (retS (R.map Tr.pl) f)

set_option maxRecDepth 200000 in
set_option maxHeartbeats 2000000 in
theorem sretain_any {w : World} {gs bm : Nat} {R : List Tr} (h : SoIs w gs bm R) (f : Int) : Calls Tryz.prog 11 #[.pointer (some ⟨gs, 0, none⟩), .int .i64 f] w (RetPost w gs bm R f) := by
  have HM := hide (smade_any h.c0)
  have HH := hide h
  have hL8 := h.len
  have HRI := hide h.rises
  clear h
  go_enter Tryz.func11, Tryz.ntmps11
  go_wp2_with fail
  refine HM.out.mono ?_
  rintro e X ⟨rfl, q, hq⟩
  have hcX : Below w.heap.size w X := by rw [hq]; exact bdrew w q
  clear hq
  have hX := HH.out.below hcX
  have c0 := hX.c0
  obtain ⟨D, hD⟩ := hX.map
  have hown := hD.map
  have HD := hide hD
  have HX := hide hX
  have HCX := hide hcX
  have hbX := hX.lt bm (.inr (.inl rfl))
  have hgX := hX.lt gs (.inl rfl)
  have hgb : gs ≠ bm := hX.ne
  clear hX hD hcX
  go_wp2_with (first | (at_range; refine wpList_range_own _ rfl _ 68 rfl 3 71 intK Tryz.underlying68 _ bm R.length D rfl hown ?_; intro w0 hrg0 hg0 hs0) | go_in)
  go_frame
  have h0 : RdR D (curR R (Maps.has D) f) := by
    rw [curR_all fun x hx => by rw [HD.out.rd.keys, show fndK kR R x.t = some x from fndK_of HD.out.rd.rises.ids hx]; rfl]
    exact HD.out.rd
  have h0l : (curR R (Maps.has D) f).length = R.length := by
    rw [curR_all fun x hx => by rw [HD.out.rd.keys, show fndK kR R x.t = some x from fndK_of HD.out.rd.rises.ids hx]; rfl]
  have hc0' : Chg X w0 (fun k => k = bm ∨ k = X.heap.size) := Chg.of_grown hg0 _ (fun k e => by cases e)
  have HRG := hide hrg0
  have HS0 := hide hs0
  have H0 := hide (And.intro h0 (And.intro h0l hc0'))
  clear hrg0 hg0 hs0 h0 h0l hc0' hown
  go_loopw [5, 6, 7] (fun n _ _ wr => ∃ left cnt D', wr.ranges Tryz.prog 3 heldP bm X.heap.size R.length D' left cnt ∧ RdR D' (curR R left f) ∧ n = .int .i64 ((R.length - (curR R left f).length : Nat) : Int) ∧ Chg X wr (fun k => k = bm ∨ k = X.heap.size) ∧ X.heap.size + 1 ≤ wr.heap.size) (fun _ _ _ wr => wr.rangeLeft bm X.heap.size)
  case atStart => exact ⟨_, _, _, HRG.out, H0.out.1, by rw [H0.out.2.1, Nat.sub_self]; rfl, H0.out.2.2, by have := HS0.out; omega⟩
  case round =>
    obtain ⟨left, cnt, D', hrg, hrd, rfl, hch, hsz⟩ := hrel
    have hcl := curR_le R left f
    obtain ⟨m, hm⟩ : ∃ m, R.length - (curR R left f).length = m := ⟨_, rfl⟩
    rw [hm]
    have hm8 : m ≤ 32 := by omega
    have HMM := hide (And.intro hm hcl)
    have HRG2 := hide hrg
    have HRD := hide hrd
    have HCH := hide hch
    have c0r : wr.cell? ⟨gs, 0, none⟩ = some (.map (some bm)) := hch.cell c0 (by simp; omega)
    clear hrd hch hm hcl
    go_wp2_with (first | (at_next; refine wpList_next_ranges _ rfl _ rfl 3 intK heldP (Value.int .i64) Value.pointer (fun key kl h => keyR_inv h) (fun v y h => (heldP_ptr h).1) bm X.heap.size R.length D' left cnt rfl hrg ?_ ?_) | go_in)
    · intro hc0 hl0
      have hda := curR_none (R := R) (f := f) hl0
      have HDA := hide hda
      clear hrg hda
      go_wp2
      go_ret
      have hmm := HMM.out
      have hrd := HRD.out
      rw [HDA.out] at hmm hrd
      have hn : (m : Int) = (R.length : Int) - (retR R f).length := by omega
      have hcb : Chg X wr (fun k => k = bm) := ⟨HCH.out.os, HCH.out.tape, HCH.out.output, HCH.out.size, fun k hk hn => HCH.out.block k hk (fun e => by
        rcases e with e | e
        · exact hn e
        · omega)⟩
      have htm : TrIs wr bm (retR R f) D' := ⟨by rw [← hrd.size]; exact bmap_tight HRG2.out.owns, hrd⟩
      exact ⟨by rw [← hn]; rfl, HH.out.filter f ((Chg.of_below HCX.out _).trans hcb fun k hk => .inl hk) htm⟩
    · intro k c kl y1 ps w1 cnt1 hkey hlk hv hat hrg1 hlt hg1 hs1 hen
      obtain ⟨x, hxc, rfl, rfl, rfl⟩ := HRD.out.came (y := (y1, ps)) hkey hv hat
      have hx : x ∈ R := (List.mem_filter.1 hxc).1
      have HXC := hide (And.intro hxc hx)
      have hch1 : Chg X w1 (fun k => k = bm ∨ k = X.heap.size) := HCH.out.trans (Chg.of_grown hg1 (fun k => k = bm ∨ k = X.heap.size) (fun k e => by injection e with e; exact .inl (.inr e.symm))) fun k hk => .inl hk
      have hfx := HX.out.fo x hx
      have hfl := hfx.lt
      have hf1 := hfx.chg hch1 (by have := (HX.out.off x hx).2.1; omega) (by have := (HX.out.off x hx).2.2.2; omega)
      have HEN := hide (end_any hf1)
      have HRG1 := hide hrg1
      have HCH1 := hide hch1
      have HLT := hide hlt
      have HLK := hide hlk
      have HKEY := hide hkey
      have HS1 := hide hs1
      have hsz1 : X.heap.size + 1 ≤ w1.heap.size := by omega
      obtain ⟨t, g, b, L⟩ := x
      dsimp only at *
      clear hrg1 hch1 hrg hkey hv hat hlk hg1 hs1 hlt hx hxc hfx hf1 hfl
      go_wp2_with fail
      refine HEN.out.mono ?_
      rintro e2 Z ⟨rfl, hbZ⟩
      have c0Z : Z.cell? ⟨gs, 0, none⟩ = some (.map (some bm)) := (hbZ.cell (lt_of_cell (HCH1.out.cell c0 (by simp; omega)))).trans (HCH1.out.cell c0 (by simp; omega))
      have hrgZ := ranges_chgB HRG1.out (row := none) ⟨hbZ.os, hbZ.tape, hbZ.output, hbZ.size, fun k hk _ => hbZ.block k hk⟩ (by simp) (by simp)
      have hcZ : Chg X Z (fun k => k = bm ∨ k = X.heap.size) := HCH1.out.belowed hbZ
      have hsZ : X.heap.size + 1 ≤ Z.heap.size := Nat.le_trans hsz1 hbZ.size
      have HRZ := hide hrgZ
      have HZZ := hide (And.intro hcZ hsZ)
      clear hrgZ hcZ hsZ hbZ HEN
      obtain ⟨a, ha⟩ : ∃ a, endP L = a := ⟨_, rfl⟩
      rw [ha]
      have HA := hide ha
      clear ha
      by_cases haf : a < f
      · have hgo := curR_go HRI.out (left := left) HXC.out.2 (show endP L < f by rw [HA.out]; exact haf)
        have hlen := delK_filter (HRD.out.rises) HXC.out.1
        have hrd2 := HRD.out.del (HRG2.out.owns.tidy intK) HXC.out.1
        change ((curR R left f).filter fun y => decide (y.t ≠ t)).length + 1 = _ at hlen
        rw [← hgo] at hlen hrd2
        dsimp only at hlen hrd2 hgo
        have HG := hide (And.intro hlen hrd2)
        have hrgZ := HRZ.out
        clear hgo hlen hrd2
        go_wp2_with (at_delete; refine wpList_delete_ranges _ rfl _ _ 68 3 rfl 71 intK Tryz.underlying68 heldP bm X.heap.size R.length D' _ cnt1 rfl hrgZ _ _ rfl HKEY.out ?_; intro w2 cnt2 hrg2 hle2 hturn2)
        rw [Maps.strike_twice] at hrg2
        have HR2 := hide hrg2
        have HLE := hide hle2
        have hg2 := hturn2.grown
        have hc2 : Chg X w2 (fun k => k = bm ∨ k = X.heap.size) := HZZ.out.1.trans (Chg.of_grown hg2 (fun k => k = bm ∨ k = X.heap.size) (fun k e => by injection e with e; exact .inl (.inl e.symm))) fun k hk => .inl hk
        have hs2 : X.heap.size + 1 ≤ w2.heap.size := Nat.le_trans HZZ.out.2 hg2.size
        have HC2 := hide (And.intro hc2 hs2)
        have hrgZ := trivial
        clear hrg2 hle2 hturn2 hg2 hc2 hs2
        go_wp2
        go_roundw
        case rel => exact ⟨_, _, _, HR2.out, HG.out.2, (by have h1 := HG.out.1; have h2 := HMM.out; have e : R.length - (curR R (fun z => left z && !z.sameKey (Lit.int .i64 t)) f).length = m + 1 := by omega
                                                           rw [e]; go_num), HC2.out.1, HC2.out.2⟩
        case measure => rw [HR2.out.left_eq, HRG2.out.left_eq]; have := HLE.out; have := HLT.out; omega
      · have hst := curR_stay HRI.out (left := left) HXC.out.2 (show f ≤ endP L by rw [HA.out]; omega)
        dsimp only at hst
        have HST := hide hst
        clear hst
        go_wp2
        go_roundw
        case rel => exact ⟨_, _, _, HRZ.out, by rw [HST.out]; exact HRD.out, by rw [HST.out, HMM.out.1], HZZ.out.1, HZZ.out.2⟩
        case measure => rw [HRZ.out.left_eq, HRG2.out.left_eq]; exact HLT.out
end Go.Proofs.YtimjplkehlgelaaGreat
