/- Expire. -/
import Derived.Test.YtfbndbmhnpleoaaTKeep
namespace Go.Proofs.Ytfbndbmhnpleoaa
set_option linter.unusedVariables false
set_option linter.unusedSimpArgs false
open Go.RowKit

theorem ranges_chgB {H : Type} {P : Program} {k : TypeId} {R : Value → Option (DataW H × List MemPlace)} {w w' : World} {b r n : Nat} {D : DataW H} {left : Lit → Bool} {cnt : Nat} {row : Option Nat} (h : w.ranges P k R b r n D left cnt) (hc : w.grownBy w' row) (hb : row ≠ some b) (hr : row ≠ some r) : w'.ranges P k R b r n D left cnt := by
  have h1 := h.owns.lt
  have h2 := h.lt
  obtain ⟨es, clock, since, seen, c0, hb', F, hs, hD, hr', rest⟩ := h
  exact ⟨es, clock, since, seen, c0, (hc.block b h1 (fun e => hb e.symm)).trans hb', F, hs, hD, (hc.block r h2 (fun e => hr e.symm)).trans hr', rest⟩

/-- What comes out of a range over a table's map. -/
theorem RdT.came {D : DataW Value} {L : List St} (h : RdT D L) {k : Int} {c : Array Value} {kl : Lit} {y : DataW Value × List MemPlace}
    (hk : keyOf Try.prog 3 (.int .i64 k) = some kl) (hv : heldA (.agg c) = some y) (hat : ∀ zd, D.atKey kl zd = y.1) : ∃ x, x ∈ L ∧ k = x.s ∧ kl = .int .i64 x.s ∧ c = (stC x).toArray := by
  obtain ⟨k', e, hkl, hwf⟩ := Maps.keyOf_int_inv Try.underlying3 hk
  injection e with _ e
  subst e
  subst hkl
  have hh := Maps.has_true_of_atKey hat
  rw [h.keys] at hh
  obtain ⟨x, hx⟩ := Option.isSome_iff_exists.1 hh
  have e1 := h.vals _ x hx .nil
  rw [hat, (heldA_agg hv).2] at e1
  injection e1 with e1
  injection e1 with e1
  obtain ⟨h1, h2⟩ := fndT_mem hx
  exact ⟨x, h1, h2.symm, by rw [h2], e1⟩

theorem del_filter {L : List St} (h : RisesT L) {x : St} (hx : x ∈ L) : (L.filter fun y => decide (y.s ≠ x.s)).length + 1 = L.length := by
  induction L with
  | nil => simp at hx
  | cons y r ih =>
    obtain ⟨h1, h2⟩ := List.pairwise_cons.1 h
    rcases List.mem_cons.1 hx with rfl | hx
    · rw [List.filter_cons_of_neg (by simp), List.filter_eq_self.2 (fun z hz => by have := h1 z hz; simp; omega)]
      rfl
    · have := h1 x hx
      rw [List.filter_cons_of_pos (by simp; omega), List.length_cons, List.length_cons, ih h2 hx]
theorem RdT.del {D : DataW Value} {L : List St} (h : RdT D L) (ht : Maps.Tidy D) {x : St} (hx : x ∈ L) : RdT (D.del (.int .i64 x.s)) (L.filter fun y => decide (y.s ≠ x.s)) := by
  have hf := fndT_of h.rises.ids hx
  refine ⟨?_, fun k => ?_, fun k y hy => ?_, h.rises.sublist List.filter_sublist⟩
  · have h1 := Maps.size_del (k := .int .i64 x.s) ht
    rw [h.keys, hf, h.size] at h1
    have h2 := del_filter h.rises hx
    simp at h1
    omega
  · rw [fndT_filter h.rises.ids]
    by_cases e : k = x.s
    · subst e
      rw [Maps.has_del_same, hf]
      simp
    · rw [Maps.has_del_other (fun h => e (by injection h)), h.keys]
      cases hk : fndT L k with
      | none => rfl
      | some y =>
        have := (fndT_mem hk).2
        simp [this, e]
  · rw [fndT_filter h.rises.ids] at hy
    intro z
    have hne : k ≠ x.s := by
      intro e
      subst e
      rw [hf] at hy
      simp at hy
      obtain ⟨rfl, hy⟩ := hy
      exact hy rfl
    rw [Maps.atKey_del_other (fun h => hne (by injection h))]
    refine h.vals k y ?_ z
    cases hk : fndT L k with
    | none => rw [hk] at hy; simp at hy
    | some u =>
      rw [hk, Option.filter_some] at hy
      split at hy
      · exact hy
      · simp at hy

/-- The sessions that are there while a range goes on. -/
def curT (L : List St) (left : Lit → Bool) (f : Int) : List St := L.filter fun x => left (.int .i64 x.s) || decide (f ≤ x.a)
theorem curT_all {L : List St} {left : Lit → Bool} {f : Int} (h : ∀ x ∈ L, left (.int .i64 x.s) = true) : curT L left f = L := List.filter_eq_self.2 fun x hx => by rw [h x hx]; rfl
theorem curT_none {L : List St} {left : Lit → Bool} {f : Int} (h : ∀ k, left k = false) : curT L left f = expT L f := List.filter_congr fun x hx => by rw [h]; rfl
theorem eq_of_ids {L : List St} (h : RisesT L) {x y : St} (hx : x ∈ L) (hy : y ∈ L) (e : x.s = y.s) : x = y := by
  have h1 := fndT_of h.ids hx
  rw [e, fndT_of h.ids hy] at h1
  injection h1 with h1
  exact h1.symm
theorem curT_stay {L : List St} (h : RisesT L) {left : Lit → Bool} {f : Int} {x : St} (hx : x ∈ L) (hf : f ≤ x.a) : curT L (fun z => left z && !z.sameKey (.int .i64 x.s)) f = curT L left f := by
  refine List.filter_congr fun y hy => ?_
  dsimp only
  rw [same_int]
  by_cases e : y.s = x.s
  · obtain rfl := eq_of_ids h hy hx e
    simp [hf]
  · simp [e]
theorem curT_go {L : List St} (h : RisesT L) {left : Lit → Bool} {f : Int} {x : St} (hx : x ∈ L) (hf : x.a < f) : curT L (fun z => left z && !z.sameKey (.int .i64 x.s)) f = (curT L left f).filter fun y => decide (y.s ≠ x.s) := by
  unfold curT
  rw [List.filter_filter]
  refine List.filter_congr fun y hy => ?_
  dsimp only
  rw [same_int]
  by_cases e : y.s = x.s
  · obtain rfl := eq_of_ids h hy hx e
    simp
    omega
  · simp [e]
theorem curT_mem {L : List St} {left : Lit → Bool} {f : Int} {x : St} (hx : x ∈ L) (hl : left (.int .i64 x.s) = true) : x ∈ curT L left f := List.mem_filter.2 ⟨hx, by rw [hl]; rfl⟩
theorem curT_le (L : List St) (left : Lit → Bool) (f : Int) : (curT L left f).length ≤ L.length := List.length_filter_le _ _

set_option maxRecDepth 200000 in
set_option maxHeartbeats 2000000 in
theorem expire_any {w : World} {g b : Nat} {L : List St} (h : TbIs w g b L) (f : Int) : Calls Try.prog 14 #[.pointer (some ⟨g, 0, none⟩), .int .i64 f] w (TabPost w g b ((L.length : Int) - (expT L f).length) (expT L f)) := by
  have HM := hide (made_any h.c0)
  have HH := hide h
  have hL8 := h.ok.len
  have HRI := hide h.ok.rises
  have HOK : Hid (TbOk (expT L f)) := hide (h.ok.exp f)
  clear h
  go_enter Try.func14, Try.ntmps14
  go_wp2_with fail
  refine HM.out.mono ?_
  rintro e X ⟨rfl, hcX⟩
  have hX := HH.out.chg hcX (fun e => e) (fun e => e)
  have c0 := hX.c0
  obtain ⟨D, hD⟩ := hX.map
  have hown := hD.map
  have HD := hide hD
  have HX := hide hX
  have HCX := hide hcX
  have hbX := hX.bl
  have hgX := hX.gl
  have hgb : g ≠ b := hX.ne
  clear hX hD hcX
  go_wp2_with (first | (at_range; refine wpList_range_own _ rfl _ 54 rfl 3 51 intK Try.underlying54 _ b L.length D rfl hown ?_; intro w0 hrg0 hg0 hs0) | go_in)
  go_frame
  have h0 : RdT D (curT L (Maps.has D) f) := by
    rw [curT_all fun x hx => by rw [HD.out.rd.keys, fndT_of HD.out.rd.rises.ids hx]; rfl]
    exact HD.out.rd
  have h0l : (curT L (Maps.has D) f).length = L.length := by
    rw [curT_all fun x hx => by rw [HD.out.rd.keys, fndT_of HD.out.rd.rises.ids hx]; rfl]
  have hc0' : Chg X w0 (fun k => k = b ∨ k = X.heap.size) := Chg.of_grown hg0 _ (fun k e => by cases e)
  have HRG := hide hrg0
  have HS0 := hide hs0
  have H0 := hide (And.intro h0 (And.intro h0l hc0'))
  clear hrg0 hg0 hs0 h0 h0l hc0' hown
  go_loopw [5] (fun n wr => ∃ left cnt D', wr.ranges Try.prog 3 heldA b X.heap.size L.length D' left cnt ∧ RdT D' (curT L left f) ∧ n = .int .i64 ((L.length - (curT L left f).length : Nat) : Int) ∧ Chg X wr (fun k => k = b ∨ k = X.heap.size) ∧ X.heap.size + 1 ≤ wr.heap.size) (fun _ wr => wr.rangeLeft b X.heap.size)
  case atStart => exact ⟨_, _, _, HRG.out, H0.out.1, by rw [H0.out.2.1, Nat.sub_self]; rfl, H0.out.2.2, by have := HS0.out; omega⟩
  case round =>
    obtain ⟨left, cnt, D', hrg, hrd, rfl, hch, hsz⟩ := hrel
    have hcl := curT_le L left f
    obtain ⟨m, hm⟩ : ∃ m, L.length - (curT L left f).length = m := ⟨_, rfl⟩
    rw [hm]
    have hm8 : m ≤ 8 := by omega
    have HMM := hide (And.intro hm hcl)
    have HRG2 := hide hrg
    have HRD := hide hrd
    have HCH := hide hch
    have c0r : wr.cell? ⟨g, 0, none⟩ = some (.map (some b)) := hch.cell c0 (by simp; omega)
    clear hrd hch hm hcl
    go_wp2_with (first | (at_next; refine wpList_next_ranges _ rfl _ rfl 3 intK heldA (Value.int .i64) Value.agg (fun key kl h => keyI_inv h) (fun v y h => (heldA_agg h).1) b X.heap.size L.length D' left cnt rfl hrg ?_ ?_) | go_in)
    · intro hc0 hl0
      have hda := curT_none (L := L) (f := f) hl0
      have HDA := hide hda
      clear hrg hda
      go_wp2
      go_ret
      have hmm := HMM.out
      have hrd := HRD.out
      rw [HDA.out] at hmm hrd
      have hn : (m : Int) = (L.length : Int) - (expT L f).length := by omega
      have hcb : Chg X wr (fun k => k = b) := ⟨HCH.out.os, HCH.out.tape, HCH.out.output, HCH.out.size, fun k hk hn => HCH.out.block k hk (fun e => by
        rcases e with e | e
        · exact hn e
        · omega)⟩
      have htm : TmIs wr b (expT L f) D' := ⟨by rw [← hrd.size]; exact bmap_tight HRG2.out.owns, hrd⟩
      exact ⟨by rw [← hn]; rfl, HX.out.with_ hcb htm HOK.out, (HCX.out.nope _).trans hcb fun k hk => .inl hk⟩
    · intro k c kl y1 ps w1 cnt1 hkey hlk hv hat hrg1 hlt hg1 hs1 hen
      obtain ⟨x, hxc, rfl, rfl, rfl⟩ := HRD.out.came (y := (y1, ps)) hkey hv hat
      have hx : x ∈ L := (List.mem_filter.1 hxc).1
      have HXC := hide (And.intro hxc hx)
      have hch1 : Chg X w1 (fun k => k = b ∨ k = X.heap.size) := HCH.out.trans (Chg.of_grown hg1 (fun k => k = b ∨ k = X.heap.size) (fun k e => by injection e with e; exact .inl (.inr e.symm))) fun k hk => .inl hk
      have c01 : w1.cell? ⟨g, 0, none⟩ = some (.map (some b)) := hch1.cell c0 (by simp; omega)
      have HRG1 := hide hrg1
      have HCH1 := hide hch1
      have HLT := hide hlt
      have HLK := hide hlk
      have HKEY := hide hkey
      have HS1 := hide hs1
      obtain ⟨s, q, a, ⟨e1, e2, e3, e4, e5, e6, e7, e8⟩⟩ := x
      unfold stC at *
      dsimp only at *
      clear hrg1 hch1 hrg hkey hv hat hlk hg1 hs1 hlt hx hxc
      obtain ⟨Z, hZ⟩ : ∃ Z, w1.alloc (.cells #[.int .i64 s, .int .i64 q, .int .i64 a, .int .i64 e1, .int .i64 e2, .int .i64 e3, .int .i64 e4, .int .i64 e5, .int .i64 e6, .int .i64 e7, .int .i64 e8] 51) = Z := ⟨_, rfl⟩
      have c0Z : Z.cell? ⟨g, 0, none⟩ = some (.map (some b)) := by rw [← hZ]; exact Lib.cell?_alloc_some _ c01
      have hrgZ := ranges_chgB HRG1.out (World.grownBy_alloc w1 (.cells #[.int .i64 s, .int .i64 q, .int .i64 a, .int .i64 e1, .int .i64 e2, .int .i64 e3, .int .i64 e4, .int .i64 e5, .int .i64 e6, .int .i64 e7, .int .i64 e8] 51) none) (by simp) (by simp)
      rw [hZ] at hrgZ
      have hcZ : Chg X Z (fun k => k = b ∨ k = X.heap.size) := by rw [← hZ]; exact HCH1.out.alloc _
      have hsZ : X.heap.size + 1 ≤ Z.heap.size := by rw [← hZ]; have := HS1.out; simp; omega
      have z2 : Z.cell? ⟨w1.heap.size, 2, none⟩ = some (.int .i64 a) := by rw [← hZ, World.cell?_alloc_new]; rfl
      have HRZ := hide hrgZ
      have HZZ := hide (And.intro hcZ hsZ)
      clear hrgZ hcZ hsZ
      by_cases haf : a < f
      · have hgo := curT_go HRI.out (left := left) HXC.out.2 haf
        have hlen := del_filter (HRD.out.rises) HXC.out.1
        have hrd2 := HRD.out.del (HRG2.out.owns.tidy intK) HXC.out.1
        rw [← hgo] at hlen hrd2
        dsimp only at hlen hrd2 hgo
        have HG := hide (And.intro hlen hrd2)
        have hrgZ := HRZ.out
        clear hgo hlen hrd2
        go_wp2_with (at_delete; refine wpList_delete_ranges _ rfl _ _ 54 3 rfl 51 intK Try.underlying54 heldA b X.heap.size L.length D' _ cnt1 rfl hrgZ _ _ rfl HKEY.out ?_; intro w2 cnt2 hrg2 hle2 hturn2)
        rw [Maps.strike_twice] at hrg2
        have HR2 := hide hrg2
        have HLE := hide hle2
        have hg2 := hturn2.grown
        have hc2 : Chg X w2 (fun k => k = b ∨ k = X.heap.size) := HZZ.out.1.trans (Chg.of_grown hg2 (fun k => k = b ∨ k = X.heap.size) (fun k e => by injection e with e; exact .inl (.inl e.symm))) fun k hk => .inl hk
        have hs2 : X.heap.size + 1 ≤ w2.heap.size := Nat.le_trans HZZ.out.2 hg2.size
        have HC2 := hide (And.intro hc2 hs2)
        have hrgZ := trivial
        clear hrg2 hle2 hturn2 hg2 hc2 hs2
        go_wp2
        go_roundw
        case rel => exact ⟨_, _, _, HR2.out, HG.out.2, (by have h1 := HG.out.1; have h2 := HMM.out; have e : L.length - (curT L (fun z => left z && !z.sameKey (Lit.int .i64 s)) f).length = m + 1 := by omega
                                                           rw [e]; go_num), HC2.out.1, HC2.out.2⟩
        case measure => rw [HR2.out.left_eq, HRG2.out.left_eq]; have := HLE.out; have := HLT.out; omega
      · have hst := curT_stay HRI.out (left := left) HXC.out.2 (show f ≤ a by omega)
        dsimp only at hst
        have HST := hide hst
        clear hst
        go_wp2
        go_roundw
        case rel => exact ⟨_, _, _, HRZ.out, by rw [HST.out]; exact HRD.out, by rw [HST.out, HMM.out.1], HZZ.out.1, HZZ.out.2⟩
        case measure => rw [HRZ.out.left_eq, HRG2.out.left_eq]; exact HLT.out
end Go.Proofs.Ytfbndbmhnpleoaa
