/- Several texts made one. -/
import Derived.Test.YtgbdjcekpdfpjaaGreatDoorVChk
import Derived.Test.YtgbdjcekpdfpjaaGreatDoorDa
import Derived.Deep.RegionHeld3
set_option linter.unusedVariables false
set_option linter.unusedSimpArgs false
namespace Go.Proofs.YtgbdjcekpdfpjaaGreatDoor
open Go.RowKit
def Tab (w : World) : Prop := Lib.TabIs Tryz.prog w "internal/strconv.uint64pow10" .u64 Lib.pow10Tab
noncomputable def tabG : Nat := ((Tryz.prog.globalNamed "internal/strconv.uint64pow10").getD 0)
theorem tabG_is : Tryz.prog.globalNamed "internal/strconv.uint64pow10" = some tabG := by kernel_rfl
theorem Tab.at_ {w : World} (h : Tab w) : ∃ o, w.heap[tabG]? = some o := by
 unfold Tab Lib.TabIs World.var? at h
 rw [tabG_is] at h
 simp only [Option.bind_some] at h
 cases ho : w.heap[tabG]? with
 | none => rw [ho] at h; simp at h
 | some o => exact ⟨o, rfl⟩
theorem Tab.lt {w : World} (h : Tab w) : tabG < w.heap.size := by
 obtain ⟨o, ho⟩ := h.at_
 exact (Array.getElem?_eq_some_iff.1 ho).1
theorem Tab.same {w w' : World} (h : Tab w) (hw : w'.heap[tabG]? = w.heap[tabG]?) : Tab w' := by
 unfold Tab Lib.TabIs World.var? at h ⊢
 rw [tabG_is] at h ⊢
 simp only [Option.bind_some] at h ⊢
 rw [hw]
 exact h
theorem Tab.below {w w' : World} {B : Nat} (h : Tab w) (hb : Below B w w') (hB : tabG < B) : Tab w' := h.same (hb.block _ hB)
theorem Tab.chg {w w' : World} {S : Nat → Prop} (h : Tab w) (hc : Chg w w' S) (hS : ¬ S tabG) : Tab w' := h.same (hc.block _ h.lt hS)
theorem there_any {w : World} {b : Nat} {ix : Int} (h : w.cell? ⟨b, 0, none⟩ = some (.int .i64 ix)) : Calls Tryz.prog 61 #[.pointer (some ⟨b, 0, none⟩)] w fun e w' => e = .returned (.bool (decide (0 < ix))) ∧ w' = w := by
 go_enter Tryz.func61, Tryz.ntmps61
 go_wp2
 go_ret
 exact ⟨rfl, rfl⟩
theorem decDigits_pos (u : Nat) : 0 < (Lib.decDigits u).length := by
 unfold Lib.decDigits
 split <;> simp
theorem decDigits_len : ∀ (f u : Nat), u < 10 ^ (f + 1) → (Lib.decDigits u).length ≤ f + 1
 | f, u, h => by
  unfold Lib.decDigits
  split
  ·simp
  ·rename_i h10
   cases f with
   | zero => simp at h; omega
   | succ f =>
    have := decDigits_len f (u / 10) (by rw [Nat.pow_succ] at h; omega)
    simp; omega
theorem str_cut (L : List UInt8) : ({ data := #[115, 110, 97, 112, 46] } : ByteArray) ++ ({ data := L.toArray } : ByteArray).extract 1 L.length = str (pre5 ++ L.drop 1) := by
 apply ByteArray.ext
 simp only [ByteArray.data_append, ByteArray.data_extract]
 apply Array.toList_inj.1
 rw [str_list]
 unfold pre5
 simp only [Array.toList_append, Array.toList_extract, List.extract_eq_take_drop]
 rw [List.take_of_length_le (by simp)]
def fileV (ix : Int) : Value := .string (str (if 0 < ix then nameL ix else []))
set_option maxRecDepth 100000 in
set_option maxHeartbeats 2000000 in
theorem file_any {w : World} {b : Nat} {ix : Int} (h : w.cell? ⟨b, 0, none⟩ = some (.int .i64 ix)) (h1 : -1099511627776 ≤ ix) (h2 : ix ≤ 1099511627776) (ht : Tab w) :
  Calls Tryz.prog 63 #[.pointer (some ⟨b, 0, none⟩)] w fun e w' => e = .returned (fileV ix) ∧ Below w.heap.size w w' := by
 by_cases h0 : 0 < ix
 ·have HX : Hid (fileV ix = .string (str (nameL ix))) := hide (by unfold fileV; rw [if_pos h0])
  have e1 : decide (0 < ix) = true := by simpa using h0
  have HT := hide ht
  have HH := hide h
  obtain ⟨L, hL⟩ : ∃ L, Lib.itoa (10000000000000 + ix) = L := ⟨_, rfl⟩
  have hLl : 0 < L.length := by
   rw [← hL]; unfold Lib.itoa
   rw [if_neg (by omega)]
   exact decDigits_pos _
  have hLu : L.length ≤ 20 := by
   rw [← hL]; unfold Lib.itoa
   rw [if_neg (by omega)]
   have := decDigits_len 13 (10000000000000 + ix).toNat (by omega)
   omega
  have HIT : Hid (Calls Tryz.prog 101 #[.int .i64 (10000000000000 + ix)] w fun e w' => e = .returned (.string ⟨L.toArray⟩) ∧ Below w.heap.size w w') := hide (by
   refine (Tryz.strconv_Itoa (10000000000000 + ix) (by omega) (by omega) w HT.out).mono ?_
   rintro e w' ⟨rfl, k, os, rfl⟩
   rw [hL]
   exact ⟨rfl, Go.Proofs.below_grown _ _ _⟩)
  have HN : Hid (nameL ix = pre5 ++ L.drop 1) := hide (by unfold nameL; rw [hL])
  clear ht hL
  go_enter Tryz.func63, Tryz.ntmps63
  go_wp2_with (first
   | (go_at_call 61; refine (there_any HH.out).mono ?_; rintro e w1 ⟨rfl, rfl⟩)
   | (go_at_call 101; refine HIT.out.mono ?_; rintro e w1 ⟨rfl, hb⟩))
  go_ret
  refine ⟨?_, hb⟩
  rw [HX.out, HN.out, ← str_cut L]
  rfl
 ·have HX : Hid (fileV ix = .string (str [])) := hide (by unfold fileV; rw [if_neg h0])
  have e1 : decide (0 < ix) = false := by simpa using h0
  have HH := hide h
  go_enter Tryz.func63, Tryz.ntmps63
  go_wp2_with (go_at_call 61; refine (there_any HH.out).mono ?_; rintro e w1 ⟨rfl, rfl⟩)
  go_ret
  exact ⟨by rw [HX.out]; rfl, Below.refl _ _⟩
end Go.Proofs.YtgbdjcekpdfpjaaGreatDoor
namespace Go.Proofs.YtgbdjcekpdfpjaaGreatDoor
open Go.RowKit
structure StAt (w : World) (b : Nat) (vo da : Value) (s : Sn) : Prop where
 c0 : w.cell? ⟨b, 0, none⟩ = some (.int .i64 s.ix)
 c1 : w.cell? ⟨b, 1, none⟩ = some (.int .i64 s.tm)
 c2 : w.cell? ⟨b, 2, none⟩ = some vo
 c3 : w.cell? ⟨b, 3, none⟩ = some da
 ns : Ns w vo s.vo
 by_ : By w da s.da
 f0 : Go.Proofs.YtgbdjcekpdfpjaaGreatDoor.fits s.ix
 f1 : Go.Proofs.YtgbdjcekpdfpjaaGreatDoor.fits s.tm
theorem StAt.below {w w' : World} {b : Nat} {vo da : Value} {s : Sn} (h : StAt w b vo da s) (hb : Below w.heap.size w w') : StAt w' b vo da s :=
 ⟨(hb.cell (lt_of_cell h.c0)).trans h.c0, (hb.cell (lt_of_cell h.c1)).trans h.c1, (hb.cell (lt_of_cell h.c2)).trans h.c2, (hb.cell (lt_of_cell h.c3)).trans h.c3, h.ns.below hb, h.by_.below hb, h.f0, h.f1⟩
theorem StAt.below' {w w' : World} {b : Nat} {vo da : Value} {s : Sn} (h : StAt w b vo da s) (hb : Below w.heap.size w w') : StAt w' b vo da s := h.below hb
theorem Ns.chg {w w' : World} {S : Nat → Prop} {v : Value} {l : List Int} (h : Ns w v l) (hc : Chg w w' S) (hne : l = [] ∨ ∀ k, v.ownBlock = some k → ¬ S k) : Ns w' v l := by
 obtain ⟨p, c, rfl, hl, hm, hn, hf, hx⟩ := h
 refine ⟨p, c, rfl, hl, hm, hn, hf, fun h0 => ?_⟩
 obtain ⟨g, o, e, hx⟩ := hx h0
 refine ⟨g, o, e, fun i x hi => hc.cell (hx i x hi) ?_⟩
 rcases hne with rfl | hne
 ·simp at h0
 ·exact hne g (by rw [e]; rfl)
theorem StAt.chg {w w' : World} {S : Nat → Prop} {b : Nat} {vo da : Value} {s : Sn} (h : StAt w b vo da s) (hc : Chg w w' S) (hb : ¬ S b) (hv : s.vo = [] ∨ ∀ k, vo.ownBlock = some k → ¬ S k) (hd : s.da = [] ∨ ∀ k, da.ownBlock = some k → ¬ S k) : StAt w' b vo da s :=
 ⟨hc.cell h.c0 hb, hc.cell h.c1 hb, hc.cell h.c2 hb, hc.cell h.c3 hb, h.ns.chg hc hv, h.by_.chg hc hd, h.f0, h.f1⟩
theorem numsB_snoc (l : List Int) (n : Int) : numsB (l ++ [n]) = numsB l ++ numB n := by unfold numsB; simp
theorem numB_len (n : Int) (h : n ≤ 9223372036854775807) : (numB n).length ≤ 9 := by
 unfold numB
 exact digits_length n.toNat (by omega)
theorem numsB_len : ∀ (l : List Int), (∀ x ∈ l, Go.Proofs.YtgbdjcekpdfpjaaGreatDoor.fits x) → (numsB l).length ≤ 9 * l.length
 | [], _ => by simp [numsB]
 | n :: r, h => by
  have h1 := numB_len n (h n (List.mem_cons_self ..)).2
  have h2 := numsB_len r fun x hx => h x (List.mem_cons_of_mem _ hx)
  unfold numsB at h2 ⊢
  simp only [List.map_cons, List.flatten_cons, List.length_append, List.length_cons]
  omega
theorem number_put {w : World} {v : Value} {l : List UInt8} (hv : By w v l) (hl : l.length ≤ 140737488000000) (n : Int) (hn : n ≤ 9223372036854775807) :
  Calls Tryz.prog 138 #[v, .int .i64 n] w fun e w' => ∃ v', e = .returned v' ∧ Own w.heap.size w' v' (l ++ numB n) ∧ Below w.heap.size w w' :=
 wireNumber_any hv hl n n.toNat (Int.toNat_eq_max n).symm (by unfold lim; omega)
set_option maxRecDepth 100000 in
set_option maxHeartbeats 4000000 in
theorem head_any {w : World} {b : Nat} {vo da : Value} {s : Sn} (h : StAt w b vo da s) (hvs : s.vo.length ≤ 100000) :
  Calls Tryz.prog 122 #[.pointer (some ⟨b, 0, none⟩)] w fun e w' => ∃ v', e = .returned v' ∧ Own w.heap.size w' v' s.head ∧ Below w.heap.size w w' := by
 obtain ⟨p2, n2, c2, rfl⟩ := h.by_.sl
 obtain ⟨p1, n1, c1, rfl⟩ := h.ns.sl
 have hn1 := h.ns.len.1
 have hn2 := h.by_.len.1
 have hm2 := h.by_.lenMax
 have h0 := h.c0
 have h1 := h.c1
 have h2 := h.c2
 have h3 := h.c3
 have H := hide h
 have HN1 := hide hn1
 have HN2 := hide hn2
 have HE : Hid (s.head = numsB [s.ix, s.tm, (n1 : Int)] ++ numsB s.vo ++ numB n2) := hide (by
  unfold Sn.head numsB
  rw [← hn1, ← hn2]
  simp)
 have hb1 : n1 ≤ 100000 := by omega
 have HKA := hide fun o : Obj => (show (w.alloc o).drew.cell? ⟨b, 0, none⟩ = some (.int .i64 s.ix) ∧ (w.alloc o).drew.cell? ⟨b, 1, none⟩ = some (.int .i64 s.tm) ∧ (w.alloc o).drew.cell? ⟨b, 2, none⟩ = some (.slice p1 n1 c1) from
  ⟨((balloc (Below.refl w.heap.size w) o).cell (lt_of_cell h0)).trans h0, ((balloc (Below.refl w.heap.size w) o).cell (lt_of_cell h1)).trans h1, ((balloc (Below.refl w.heap.size w) o).cell (lt_of_cell h2)).trans h2⟩)
 clear h hn1 hn2
 go_enter Tryz.func122, Tryz.ntmps122
 go_wp2_with fail
 go_region_held3 (fun W => W.cell? ⟨b, 0, none⟩ = some (.int .i64 s.ix) ∧ W.cell? ⟨b, 1, none⟩ = some (.int .i64 s.tm) ∧ W.cell? ⟨b, 2, none⟩ = some (.slice p1 n1 c1)) (first | exact ⟨h0, h1, h2⟩ | exact HKA.out _) (fail)
 go_wp2_with fail
 obtain ⟨W0, hW0⟩ : ∃ W0, (w.alloc (.cells #[.int .i64 s.ix, .int .i64 s.tm, .int .i64 (n1 : Int)] 3)).drew = W0 := ⟨_, rfl⟩
 have HW0 := hide (by rw [← hW0]; exact below_drewN (balloc (Below.refl w.heap.size w) _) 1 : Below w.heap.size w W0)
 have HC0 : Hid (∀ (k : Nat) x, [s.ix, s.tm, (n1 : Int)][k]? = some x → W0.cell? ⟨w.heap.size, k, none⟩ = some (.int .i64 x)) := hide (by
  intro k x hk
  rw [← hW0]
  match k, hk with
  | 0, hk => simp at hk; subst hk; simp
  | 1, hk => simp at hk; subst hk; simp
  | 2, hk => simp at hk; subst hk; simp
  | k + 3, hk => simp at hk)
 rw [hW0]
 clear hW0 h0 h1 h2 h3
 go_loopw [3, 26] (fun v i wr => ∃ k : Nat, k ≤ 3 ∧ i = .int .i64 k ∧ By wr v (numsB ([s.ix, s.tm, (n1 : Int)].take k)) ∧ Below w.heap.size w wr ∧ Below W0.heap.size W0 wr) (fun _ i _ => 3 - (intOf i).toNat)
 case atStart => exact ⟨0, by omega, rfl, By.nil _, HW0.out, Below.refl _ _⟩
 case round =>
  obtain ⟨k, hk, rfl, hby, hb, hb0⟩ := hrel
  have HBY := hide hby
  have HB := hide hb
  have HB0 := hide hb0
  have hbs := hb.size
  obtain ⟨pv, nv, cv, rfl⟩ := hby.sl
  clear hby hb hb0
  by_cases hlt : k < 3
  ·obtain ⟨x, hx⟩ : ∃ x, [s.ix, s.tm, (n1 : Int)][k]? = some x := ⟨_, List.getElem?_eq_getElem (by simpa using hlt)⟩
   have hcell : wr.cell? ⟨w.heap.size, k, none⟩ = some (.int .i64 x) := (HB0.out.cell (lt_of_cell (HC0.out k x hx))).trans (HC0.out k x hx)
   have hxm : Hid (Go.Proofs.YtgbdjcekpdfpjaaGreatDoor.fits x) := hide (by
    match k, hx with
    | 0, hx => simp at hx; subst hx; exact H.out.f0
    | 1, hx => simp at hx; subst hx; exact H.out.f1
    | 2, hx => simp at hx; subst hx; exact ⟨by omega, by omega⟩
    | k + 3, hx => simp at hx)
   have HT : Hid (numsB ([s.ix, s.tm, (n1 : Int)].take (k + 1)) = numsB ([s.ix, s.tm, (n1 : Int)].take k) ++ numB x) := hide (by rw [List.take_add_one, hx, ← numsB_snoc]; rfl)
   have HL : Hid ((numsB ([s.ix, s.tm, (n1 : Int)].take k)).length ≤ 100) := hide (by
    have := numsB_len ([s.ix, s.tm, (n1 : Int)].take k) (fun y hy => by
     have := List.mem_of_mem_take hy
     simp only [List.mem_cons, List.not_mem_nil, or_false] at this
     rcases this with rfl | rfl | rfl
     ·exact H.out.f0
     ·exact H.out.f1
     ·exact ⟨by omega, by omega⟩)
    rw [List.length_take] at this
    simp at this
    omega)
   have e1 : decide ((k : Int) < 3) = true := by simp; omega
   clear hx
   go_wp2_with (go_at_call 138; refine (number_put HBY.out (Nat.le_trans HL.out (by omega)) x hxm.out.2).mono ?_; rintro e w1 ⟨v1, rfl, ho1, hb1⟩)
   have K1 := hide (by rw [HT.out]; exact ho1.by_ : By w1 v1 (numsB ([s.ix, s.tm, (n1 : Int)].take (k + 1))))
   have K2 := hide (HB.out.trans (hb1.mono hbs))
   have K3 := hide (HB0.out.trans (hb1.mono HB0.out.size))
   clear ho1 hb1
   go_roundw
   case rel => exact ⟨k + 1, by omega, by go_num, K1.out, K2.out, K3.out⟩
   case measure => simp [intOf] <;> omega
  ·have HK3 : Hid (k = 3) := hide (by omega)
   have e1 : decide ((k : Int) < 3) = false := by simp; omega
   have hS := H.out.below' HB.out
   have h2 := hS.c2
   have HB1 := hide (show By wr (.slice pv nv cv) (numsB [s.ix, s.tm, (n1 : Int)]) from (by have := HBY.out; rw [HK3.out] at this; exact this))
   have HLA := hide (numsB_len [s.ix, s.tm, (n1 : Int)] (fun y hy => by
     simp only [List.mem_cons, List.not_mem_nil, or_false] at hy
     rcases hy with rfl | rfl | rfl
     ·exact H.out.f0
     ·exact H.out.f1
     ·exact ⟨by omega, by omega⟩))
   have HS := hide hS
   clear HBY
   go_wp2_with fail
   go_loopw [3, 40] (fun v i wq => ∃ k : Nat, k ≤ n1 ∧ i = .int .i64 k ∧ By wq v (numsB [s.ix, s.tm, (n1 : Int)] ++ numsB (s.vo.take k)) ∧ Below w.heap.size w wq ∧ Below wr.heap.size wr wq) (fun _ i _ => n1 - (intOf i).toNat)
   case atStart => exact ⟨0, by omega, rfl, by simpa [numsB] using HB1.out, HB.out, Below.refl _ _⟩
   case round =>
    obtain ⟨k, hk, rfl, hby, hb, hb0⟩ := hrel
    have HBY := hide hby
    have HB := hide hb
    have HB2 := hide hb0
    have hbs := hb.size
    obtain ⟨pv, nv, cv, rfl⟩ := hby.sl
    clear hby hb hb0
    have HL : Hid ((numsB [s.ix, s.tm, (n1 : Int)] ++ numsB (s.vo.take k)).length ≤ 1000000) := hide (by
     have h1 := HLA.out
     have h2 := numsB_len (s.vo.take k) (fun y hy => H.out.ns.fits y (List.mem_of_mem_take hy))
     rw [List.length_take] at h2
     rw [List.length_append]
     simp at h1
     have := HN1.out
     omega)
    by_cases hlt : k < n1
    ·obtain ⟨x, hx⟩ : ∃ x, s.vo[k]? = some x := ⟨_, List.getElem?_eq_getElem (by have := HN1.out; omega)⟩
     have hSq := HS.out.below HB2.out
     obtain ⟨g, o, rfl, hcs⟩ := hSq.ns.at_ (by omega)
     have hcell := hcs k x hx
     have hxm := hide (H.out.ns.fits x (List.mem_of_getElem? hx))
     have HT : Hid (numsB [s.ix, s.tm, (n1 : Int)] ++ numsB (s.vo.take (k + 1)) = (numsB [s.ix, s.tm, (n1 : Int)] ++ numsB (s.vo.take k)) ++ numB x) := hide (by rw [List.take_add_one, hx, List.append_assoc, ← numsB_snoc]; rfl)
     have e1 : decide ((k : Int) < (n1 : Int)) = true := by simp; omega
     clear hx hSq hcs hS h2
     go_wp2_with (go_at_call 138; refine (number_put HBY.out (Nat.le_trans HL.out (by omega)) x hxm.out.2).mono ?_; rintro e w1 ⟨v1, rfl, ho1, hb1⟩)
     have K1 := hide (by rw [HT.out]; exact ho1.by_ : By w1 v1 (numsB [s.ix, s.tm, (n1 : Int)] ++ numsB (s.vo.take (k + 1))))
     have K2 := hide (HB.out.trans (hb1.mono hbs))
     have K3 := hide (HB2.out.trans (hb1.mono HB2.out.size))
     clear ho1 hb1
     go_roundw
     case rel => exact ⟨k + 1, by omega, by go_num, K1.out, K2.out, K3.out⟩
     case measure => simp [intOf] <;> omega
    ·obtain rfl : k = n1 := by omega
     have hSq := HS.out.below HB2.out
     have h3 := hSq.c3
     have HX : Hid (numsB [s.ix, s.tm, (k : Int)] ++ numsB (s.vo.take k) = numsB [s.ix, s.tm, (k : Int)] ++ numsB s.vo) := hide (by rw [List.take_of_length_le (by have := HN1.out; omega)])
     clear hSq hS h2
     go_wp2_with (go_at_call 138; refine (number_put HBY.out (Nat.le_trans HL.out (by omega)) (n2 : Int) (by omega)).mono ?_; rintro e w1 ⟨v1, rfl, ho1, hb1⟩)
     go_ret
     refine ⟨v1, rfl, ?_, HB.out.trans (hb1.mono hbs)⟩
     rw [HE.out, ← HX.out]
     exact ho1.mono hbs
end Go.Proofs.YtgbdjcekpdfpjaaGreatDoor
