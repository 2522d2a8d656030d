/- Of a session that is not there the reply says so, and nothing is put in: the law MachineEnds returns true, for arguments of bulk at most 1048576. Condition: errors.errorType holds what the program's text lays there (the card ties it). -/
import Derived.Test.YtionbmlicmibgaaGreatDoorRows
import Derived.Test.YtionbmlicmibgaaGreatDoorMcErr
import Derived.ChangeSame
import Derived.ChangeVars
import Derived.JoinedOf
import Derived.RowKit
import Derived.RowKitTokens
import Derived.LaidLaws
import Derived.LaidHandle
import Derived.Stop.Joined
import Derived.Test.YtionbmlicmibgaaGreatDoorX2
import Derived.Test.YtionbmlicmibgaaGreatDoorR1
import Derived.Test.YtionbmlicmibgaaGreatDoorMcKit
import Derived.Test.YtionbmlicmibgaaGreatDoorCards
import Derived.Test.YtionbmlicmibgaaGreatDoorTie
import Derived.Test.YtionbmlicmibgaaGreatDoorMcArg
import Derived.SevenTiedAt
import Derived.Deep.DeepHandedRow
import Derived.WalkKit
import Derived.ProofKit
import Derived.OpenShut
import Derived.ShutString
import Derived.ChangeOld
import Derived.Below
import Derived.SizedLaws
namespace Go.Proofs.YtionbmlicmibgaaGreatDoor
set_option linter.unusedVariables false
set_option linter.unusedSimpArgs false
open Go.ChangeShapes Go.WideShapes Go.RowKit

theorem Tryz.own : ownKnob Tryz.prog.godebug = none := by kernel_rfl
theorem Tryz.et : Tryz.prog.globalNamed "errors.errorType" = some 0 := by kernel_rfl
theorem Tryz.rt : (Tryz.prog.cutTypes.find? (·.1 == "internal/reflectlite.rtype")).map (·.2) = some 242 := by kernel_rfl
theorem Tryz.oneRow : ((List.range 334).filter fun t => Tryz.prog.rowNamed t [101, 114, 114, 111, 114]) = [175] := by kernel_rfl
theorem Tryz.size : Tryz.prog.types.size = 334 := by kernel_rfl
/-- What is laid. -/
def laidL : List (String × DataW Unit) := [("errors.errorType", Rows.laid_errors_errorType)]
theorem errT_of_laid {W : World} (h : laidMetH Tryz.prog laidL W) : ErrT W := by
 have h' : laidMet Tryz.prog [] W ∧ handlesMet Tryz.prog laidL W := h
 obtain ⟨name, u, ty, e1, e2, e3, e4, e5⟩ := h'.2 _ (List.mem_singleton.2 rfl)
 have en : name = [101, 114, 114, 111, 114] := (Option.some.inj e1).symm
 subst en
 obtain rfl := Option.some.inj (Tryz.rt.symm.trans e2)
 have hm : ty ∈ (List.range 334).filter fun t => Tryz.prog.rowNamed t [101, 114, 114, 111, 114] := List.mem_filter.2 ⟨List.mem_range.2 (by rw [← Tryz.size]; exact e3), e4⟩
 rw [Tryz.oneRow] at hm
 obtain rfl := List.mem_singleton.1 hm
 have hh : typeHandle Tryz.prog 175 = .pointer (some ⟨2, 175, none⟩) := by kernel_rfl
 rw [hh] at e5
 have h9 := World.var?_cell Tryz.et e5 0
 unfold ErrT
 simpa using h9
/-- A world that meets the condition. -/
noncomputable def laidWorld (os : Os) : World :=
 let w0 := World.holding Tryz.prog os ⟨#[], #[], []⟩
 { w0 with heap := w0.heap.modify 0 fun
   | .cells _ t frozen => .cells #[.iface 242 (.agg #[.pointer (some ⟨2, 175, none⟩)])] t frozen
   | o => o }
theorem laidWorld_met (os : Os) (args : Array Value) : laidMetH Tryz.prog laidL ((laidWorld os).forCall (fun _ _ => 0) ⟨#[], args, []⟩).memory :=
 laidMetH_of_parts (laidMet_nil _ _) (by kernel_rfl)
end Go.Proofs.YtionbmlicmibgaaGreatDoor
namespace Go.Proofs.YtionbmlicmibgaaGreatDoor
set_option linter.unusedVariables false
set_option linter.unusedSimpArgs false
open Go.RowKit

/-- Where a session first stands, from a place on. -/
def idxT : List St → Int → Nat → Int
 | [], _, _ => -1
 | x :: r, n, k => if x.s = n then (k : Int) else idxT r n (k + 1)
theorem idxT_ge : ∀ (L : List St) (n : Int) (k : Nat), decide (0 ≤ idxT L n k) = L.any (fun x => x.s == n)
 | [], n, k => by simp [idxT]
 | x :: r, n, k => by
  unfold idxT
  by_cases h : x.s = n
  ·rw [if_pos h, List.any_cons, show (x.s == n) = true by simpa using h, Bool.true_or]
   simp
  ·rw [if_neg h, idxT_ge r n (k + 1), List.any_cons, show (x.s == n) = false by simpa using h, Bool.false_or]
theorem idxT_at : ∀ (L : List St) (n : Int) (k j : Nat) (x : St), L[j]? = some x → (∀ y ∈ L.take j, y.s ≠ n) → x.s = n → idxT L n k = ((k + j : Nat) : Int)
 | [], n, k, j, x, h, _, _ => by simp at h
 | y :: r, n, k, 0, x, h, _, hx => by
  simp at h
  subst h
  unfold idxT
  rw [if_pos hx]
  simp
 | y :: r, n, k, j + 1, x, h, hn, hx => by
  rw [List.getElem?_cons_succ] at h
  have h1 := hn y (by simp)
  unfold idxT
  rw [if_neg h1, idxT_at r n (k + 1) j x h (fun z hz => hn z (by simp [hz])) hx]
  congr 1
  omega
theorem idxT_no : ∀ (L : List St) (n : Int) (k : Nat), (∀ y ∈ L, y.s ≠ n) → idxT L n k = -1
 | [], n, k, _ => rfl
 | y :: r, n, k, h => by
  unfold idxT
  rw [if_neg (h y (by simp)), idxT_no r n (k + 1) fun z hz => h z (by simp [hz])]
set_option maxRecDepth 200000 in
theorem mq_any {w : World} {b4 : Nat} {n : Int} (hb : w.cell? ⟨b4, 0, none⟩ = some (.int .i64 n)) (x : St) : Calls Tryz.prog 49 #[stV x, .pointer (some ⟨b4, 0, none⟩)] w fun e w' => e = .returned (.bool (x.s == n)) ∧ Below w.heap.size w w' := by
 obtain ⟨s, q, a, ⟨e1, e2, e3, e4, e5, e6, e7, e8⟩⟩ := x
 have hA := (Below.refl w.heap.size w).alloc (Nat.le_refl _) (.cells #[.int .i64 s, .int .i64 q, .int .i64 a, .int .i64 e1, .int .i64 e2, .int .i64 e3, .int .i64 e4, .int .i64 e5, .int .i64 e6, .int .i64 e7, .int .i64 e8] 84)
 have hb1 := (hA.cell (lt_of_cell hb)).trans hb
 have HA := hide hA
 clear hA
 unfold stV
 dsimp only
 go_enter Tryz.func49, Tryz.ntmps49
 go_wp2_with fail
 go_ret
 exact ⟨rfl, HA.out⟩
set_option maxRecDepth 200000 in
set_option maxHeartbeats 8000000 in
theorem midx_any {w : World} {b4 : Nat} {n : Int} (hb : w.cell? ⟨b4, 0, none⟩ = some (.int .i64 n)) {p : Option Addr} {m c : Nat} {L : List St} (h : Sts w (.slice p m c) L) : Calls Tryz.prog 97 #[.slice p m c, .func (.func 49) #[] #[.pointer (some ⟨b4, 0, none⟩)]] w fun e w' => e = .returned (.int .i64 (idxT L n 0)) ∧ Below w.heap.size w w' := by
 have hm := h.len
 have hm9 : (m : Int) ≤ 9223372036854775807 := by unfold maxLen at hm; omega
 have HN := hide hm.1
 have HS := hide (fun W (hW : Below w.heap.size w W) => h.below hW)
 have HB := hide (fun W (hW : Below w.heap.size w W) => (hW.cell (lt_of_cell hb)).trans hb)
 clear h hm hb
 go_enter Tryz.func97, Tryz.ntmps97
 go_wp2_with fail
 go_loopw [8] (fun i wr => ∃ j : Nat, j ≤ m ∧ i = .int .i64 j ∧ Hid (Below w.heap.size w wr ∧ ∀ y ∈ L.take j, y.s ≠ n)) (fun i _ => m - (intOf i).toNat)
 case atStart => exact ⟨0, by omega, rfl, hide ⟨Below.refl _ _, fun y hy => by simp at hy⟩⟩
 case round =>
  obtain ⟨j, hj, rfl, HR⟩ := hrel
  by_cases hlt : j < m
  ·obtain ⟨x, hx⟩ : ∃ y, L[j]? = some y := ⟨_, List.getElem?_eq_getElem (by have := HN.out; omega)⟩
   obtain ⟨gd, o, rfl, hc⟩ := (HS.out wr HR.out.1).at_ (by omega)
   have hd := hc j x hx
   have d0 := hd.c0
   have d1 := hd.c1
   have d2 := hd.c2
   have d3 := hd.c3
   have d4 := hd.c4
   have d5 := hd.c5
   have d6 := hd.c6
   have d7 := hd.c7
   have d8 := hd.c8
   have d9 := hd.c9
   have d10 := hd.c10
   have HX := hide hx
   have HQ := hide (mq_any (HB.out wr HR.out.1) x)
   clear hd hc hx
   unfold stV at HQ
   cases hq : (x.s == n)
   ·rw [hq] at HQ
    have HNX : Hid (∀ y ∈ L.take (j + 1), y.s ≠ n) := hide (fun y hy => by
     rw [List.take_add_one, HX.out, List.mem_append] at hy
     rcases hy with hy | hy
     ·exact HR.out.2 y hy
     ·simp at hy
      subst hy
      simpa using hq)
    clear hq
    go_wp2_with fail
    refine HQ.out.mono ?_
    rintro e w5 ⟨rfl, hb5⟩
    have HB5 := hide (HR.out.1.trans (hb5.mono HR.out.1.size))
    clear hb5
    go_wp2_with fail
    go_roundw
    case rel => exact ⟨j + 1, by omega, by go_num, hide ⟨HB5.out, HNX.out⟩⟩
    case measure => simp [intOf]; omega
   ·rw [hq] at HQ
    have HI : Hid (idxT L n 0 = (j : Int)) := hide (by
     have h1 := idxT_at L n 0 j x HX.out HR.out.2 (by simpa using hq)
     simpa using h1)
    clear hq
    go_wp2_with fail
    refine HQ.out.mono ?_
    rintro e w5 ⟨rfl, hb5⟩
    have HB5 := hide (HR.out.1.trans (hb5.mono HR.out.1.size))
    clear hb5
    go_wp2_with fail
    go_ret
    exact ⟨ret_i HI.out, HB5.out⟩
  ·have HI : Hid (idxT L n 0 = -1) := hide (idxT_no L n 0 (by
    have h1 := HR.out.2
    rwa [List.take_of_length_le (by have := HN.out; omega)] at h1))
   go_wp2_with fail
   go_ret
   exact ⟨ret_i HI.out, HR.out.1⟩
set_option maxRecDepth 200000 in
theorem mcont_any {w : World} {b4 : Nat} {n : Int} (hb : w.cell? ⟨b4, 0, none⟩ = some (.int .i64 n)) {p : Option Addr} {m c : Nat} {L : List St} (h : Sts w (.slice p m c) L) : Calls Tryz.prog 48 #[.slice p m c, .func (.func 49) #[] #[.pointer (some ⟨b4, 0, none⟩)]] w fun e w' => e = .returned (.bool (L.any fun x => x.s == n)) ∧ Below w.heap.size w w' := by
 have HI := hide (midx_any hb h)
 obtain ⟨I, hI⟩ : ∃ i, idxT L n 0 = i := ⟨_, rfl⟩
 have HG : Hid (decide (0 ≤ I) = L.any fun x => x.s == n) := hide (by rw [← hI]; exact idxT_ge L n 0)
 rw [hI] at HI
 rw [← HG.out]
 clear hI hb h
 by_cases h0 : 0 ≤ I
 ·have e0 : decide (0 ≤ I) = true := decide_eq_true h0
  rw [e0]
  go_enter Tryz.func48, Tryz.ntmps48
  go_wp2_with fail
  refine HI.out.mono ?_
  rintro e w5 ⟨rfl, hb5⟩
  go_wp2_with fail
  go_ret
  exact ⟨rfl, hb5⟩
 ·have e0 : decide (0 ≤ I) = false := decide_eq_false h0
  rw [e0]
  go_enter Tryz.func48, Tryz.ntmps48
  go_wp2_with fail
  refine HI.out.mono ?_
  rintro e w5 ⟨rfl, hb5⟩
  go_wp2_with fail
  go_ret
  exact ⟨rfl, hb5⟩
end Go.Proofs.YtionbmlicmibgaaGreatDoor
namespace Go.Proofs.YtionbmlicmibgaaGreatDoor
set_option linter.unusedVariables false
set_option linter.unusedSimpArgs false
open Go.RowKit

/-- An ingest of a session that is not there. -/
theorem appM_gone {m : Mp} {n : Int} {sp : List Sp} (hok : Cm.ok ⟨2, n, 1, 0, sp, []⟩ = true) (hn : (m.L.any fun x => x.s == n) = false) (hi : m.ix + 1 ≤ 1099511627776) (h0 : 0 ≤ m.ix) (ht : m.tm ≤ 1099511627776) : appM m (m.ix + 1) (max m.tm 1) (Cm.bytes ⟨2, n, 1, 0, sp, []⟩) = (⟨80, 0, 0, 0, 0, 0, 0, 0⟩, 0, { m with ix := m.ix + 1, tm := max m.tm 1 }) := by
 have hx : m.nxt (m.ix + 1) (max m.tm 1) = true := by
  unfold Mp.nxt btw
  simp
  omega
 have hf : fndT m.L n = none := fndT_none.2 fun x hx => by
  have := List.any_eq_false.1 hn x hx
  simpa using this
 have ha : askT m.L n 1 = (rp0, false, 80) := by unfold askT; rw [hf]
 refine appM_no (r := rp0) (x := 80) hx hok ?_ (by decide)
 unfold cmdM
 dsimp only
 rw [if_neg (by decide), if_pos rfl]
 unfold ingM
 dsimp only
 rw [ha]
 rw [if_pos (.inl (by decide))]
set_option maxRecDepth 200000 in
set_option maxHeartbeats 16000000 in
theorem lawMEnds_any {w : World} (hE : ErrT w) {p : Option Addr} {n c : Nat} {D : List Dm} (hD : Dms w (.slice p n c) D) (hbk : ∀ d ∈ D, d.by_.length ≤ 1048576) (z : Int) (_ : (Lit.int .i64 z).wf = true) {ps : Option Addr} {ns cs : Nat} {sp : List Sp} (hs : Sps w (.slice ps ns cs) sp) (hnm : ∀ x ∈ sp, x.n.size ≤ maxLen) : Calls Tryz.prog 11 #[.slice p n c, .int .i64 z, .slice ps ns cs] w fun e w' => e = .returned (.bool true) ∧ Below w.heap.size w w' := by
 have HE := hide hE
 have HD := hide hD
 have HS := hide (And.intro hs hnm)
 have HBK := hide hbk
 have hbx := (Below.refl w.heap.size w).alloc (Nat.le_refl _) (.cells #[.int .i64 z] 3)
 have hcx : (w.alloc (.cells #[.int .i64 z] 3)).cell? ⟨w.heap.size, 0, none⟩ = some (.int .i64 z) := cell_of_row _ _ 0 _ 3 (0, 0) (heap_alloc_new w _)
 obtain ⟨X, hX⟩ : ∃ X, w.alloc (.cells #[.int .i64 z] 3) = X := ⟨_, rfl⟩
 obtain ⟨b, hbq⟩ : ∃ b, w.heap.size = b := ⟨_, rfl⟩
 rw [hX] at hbx hcx
 have HB0 : Hid (Below w.heap.size w X) := hide hbx
 rw [hbq] at hcx
 have HX0 := hide hcx
 have HSH := hide (mshort_any (hD.below hbx))
 clear hE hD hs hnm hbk hbx hcx
 go_enter Tryz.func11, Tryz.ntmps11
 go_wp2_with fail
 clear hX hbq
 refine HSH.out.mono ?_
 rintro e w1 ⟨⟨q, rfl, hq⟩, hb1⟩
 have HB1 : Hid (Below w.heap.size w w1) := hide (HB0.out.trans (hb1.mono HB0.out.size))
 have HX1 : Hid (w1.cell? ⟨b, 0, none⟩ = some (.int .i64 z)) := hide ((hb1.cell (lt_of_cell HX0.out)).trans HX0.out)
 have HQ := hide hq
 clear hb1 hq HSH
 cases q
 ·go_wp2_with fail
  refine (mawake_any (HE.out.below HB1.out)).mono ?_
  rintro e wz ⟨rfl, hbz⟩
  go_wp2_with fail
  go_ret
  exact ⟨rfl, HB1.out.trans (hbz.mono HB1.out.size)⟩
 ·go_wp2_with fail
  refine (mheavy_any (HS.out.1.below HB1.out) (by simp [maxLen]) HS.out.2).mono ?_
  rintro e w2 ⟨⟨y, rfl, hy0, hy1, hsm⟩, hb2⟩
  have HB2 : Hid (Below w.heap.size w w2) := hide (HB1.out.trans (hb2.mono HB1.out.size))
  have HX2 : Hid (w2.cell? ⟨b, 0, none⟩ = some (.int .i64 z)) := hide ((hb2.cell (lt_of_cell HX1.out)).trans HX1.out)
  have HSM0 := hide hsm
  clear hb2 hsm
  by_cases hy : 32768 < y
  ·have e1 : decide (32768 < y) = true := decide_eq_true hy
   go_wp2_with fail
   refine (mawake_any (HE.out.below HB2.out)).mono ?_
   rintro e wz ⟨rfl, hbz⟩
   go_wp2_with fail
   go_ret
   exact ⟨rfl, HB2.out.trans (hbz.mono HB2.out.size)⟩
  ·have e1 : decide (32768 < y) = false := decide_eq_false hy
   have HSM := hide (HSM0.out (by omega))
   go_wp2_with fail
   refine (mbegun_any (HE.out.below HB2.out)).mono ?_
   rintro e w3 ⟨gm, P0, rfl, hm2, hn2, hg2, hb3⟩
   have HB3 : Hid (Below w.heap.size w w3) := hide (HB2.out.trans (hb3.mono HB2.out.size))
   have HX3 : Hid (w3.cell? ⟨b, 0, none⟩ = some (.int .i64 z)) := hide ((hb3.cell (lt_of_cell HX2.out)).trans HX2.out)
   have HM2 := hide hm2
   have HN2 : Hid (∀ k, McS P0 k → w2.heap.size ≤ k) := hide hn2
   have HBL : Hid (b < w2.heap.size ∧ w.heap.size ≤ w2.heap.size ∧ w2.heap.size ≤ gm) := hide ⟨lt_of_cell HX2.out, HB2.out.size, hg2⟩
   clear hm2 hn2 hg2 hb3
   have HDP : Hid (∀ W, Chg w3 W (McS P0) → Dms W (.slice p n c) D) := hide fun W hW => HD.out.below (Chg.to_below HB3.out hW (fun k e => by have := HN2.out k e; have := HBL.out; omega))
   go_wp2_with fail
   refine (mplay_any HM2.out HDP.out (HQ.out trivial).2 HBK.out).mono ?_
   rintro e w4 ⟨rfl, P3, hts⟩
   obtain ⟨M3, hM3⟩ : ∃ m3, playM ⟨0, 0, [0, 1, 2], [], []⟩ D = m3 := ⟨_, rfl⟩
   have HIX : Hid (M3.ix ≤ 80) := hide (by have h1 := playM_ix D ⟨0, 0, [0, 1, 2], [], []⟩; have h2 := (HQ.out trivial).1; rw [hM3] at h1; dsimp only at h1; omega)
   rw [hM3] at hts
   have HB4 : Hid (Below w.heap.size w w4) := hide (Chg.to_below HB3.out hts.chg (fun k e => by have := HN2.out k e; have := HBL.out; omega))
   have HX4 : Hid (w4.cell? ⟨b, 0, none⟩ = some (.int .i64 z)) := hide (hts.chg.cell HX3.out (fun e => by have h1 := HN2.out b e; have := HBL.out; omega))
   have HM4 := hide hts.am
   have HN4 : Hid (∀ k, McS P3 k → w2.heap.size ≤ k) := hide (fun k hk => by
    rcases hts.new k hk with e | e
    ·exact HN2.out k e
    ·have := HM2.out.lt; have := HBL.out; omega)
   clear hts hM3 HDP
   go_wp2_with fail
   refine (mseats_is HM4.out).mono ?_
   rintro e w5 ⟨p5, n5, c5, rfl, hs5, hb5⟩
   have HB5 : Hid (Below w.heap.size w w5) := hide (HB4.out.trans (hb5.mono HB4.out.size))
   have HX5 : Hid (w5.cell? ⟨b, 0, none⟩ = some (.int .i64 z)) := hide ((hb5.cell (lt_of_cell HX4.out)).trans HX4.out)
   have HM5 := hide (HM4.out.below hb5)
   have HC5 := hide (mcont_any HX5.out hs5)
   obtain ⟨TH, hTH⟩ : ∃ t, (M3.L.any fun x => x.s == z) = t := ⟨_, rfl⟩
   rw [hTH] at HC5
   have HTH := hide hTH
   clear hs5 hb5 hTH
   go_wp2_with fail
   refine HC5.out.mono ?_
   rintro e w6 ⟨rfl, hb6⟩
   have HB6 : Hid (Below w.heap.size w w6) := hide (HB5.out.trans (hb6.mono HB5.out.size))
   have HX6 : Hid (w6.cell? ⟨b, 0, none⟩ = some (.int .i64 z)) := hide ((hb6.cell (lt_of_cell HX5.out)).trans HX5.out)
   have HM6 := hide (HM5.out.below hb6)
   have HCM : Hid (CmAt w6 (.slice ps ns cs) (.slice none 0 0) ⟨2, z, 1, 0, sp, []⟩) := hide ⟨HS.out.1.below HB6.out, Ns.nil _, fun x hx => by have := HSM.out.2 x hx; omega⟩
   have HMP := hide (mput_any HCM.out)
   unfold cmV at HMP
   dsimp only at HMP
   clear hb6 HC5
   have x6 := HX6.out
   go_wp2_with fail
   refine HMP.out.mono ?_
   intro e w7 hp7
   rcases hp7 with ⟨hok, p7, n7, c7, rfl, ho7, hb7⟩ | ⟨hno, rfl, hb7⟩
   ·have HB7 : Hid (Below w.heap.size w w7) := hide (HB6.out.trans (hb7.mono HB6.out.size))
    cases TH
    ·have HM7 := hide (HM6.out.below hb7)
     have HBY := hide ho7.by_
     have HOK := hide hok
     clear hb7 ho7 hok x6 HMP
     go_wp2_with fail
     refine (mmclone_any HM7.out).mono ?_
     rintro e w8 ⟨g2, P4, rfl, hm4, hn4, hg4, hb8⟩
     have HB8 : Hid (Below w.heap.size w w8) := hide (HB7.out.trans (hb8.mono HB7.out.size))
     have HM8 := hide (HM7.out.below hb8)
     have HC8 := hide hm4
     have HN8 : Hid ((∀ k, McS P4 k → w7.heap.size ≤ k) ∧ w7.heap.size ≤ g2 ∧ ∀ k, McS P3 k → k < w7.heap.size) := hide ⟨hn4, hg4, fun k hk => HM7.out.is.lt k hk⟩
     have HBY8 := hide (HBY.out.below hb8)
     clear hm4 hn4 hg4 hb8
     have HAP := appM_gone HOK.out HTH.out (by have := HIX.out; omega) HM8.out.is.ok.i0 HM8.out.is.ok.t1
     have hiw : IntKind.i64.wrap (M3.ix + 1) = M3.ix + 1 := IntWalk.i64_in _ (by have := HIX.out; have := HM8.out.is.ok.i0; omega)
     go_wp2_with fail
     refine (mindex_any HM8.out).mono ?_
     rintro e v1 ⟨rfl, rfl⟩
     go_wp2_with fail
     refine (mterm_any HM8.out).mono ?_
     rintro e v2 ⟨rfl, rfl⟩
     go_wp2_with fail
     refine (mapply_any HM8.out HBY8.out (by have := Cm.bytes_len HOK.out; omega)).mono ?_
     intro e w9 hp9
     rw [HAP] at hp9
     obtain ⟨rfl, P5, hto, hmk⟩ := hp9
     have HM9 := hide hmk
     have HC9 : Hid (MkIs w9 g2 P4 M3) := hide (HC8.out.chgS hto.chg (fun k hk e => by have h1 := HN8.out.1 k hk; have h2 := HN8.out.2.2 k e.sub; omega) (fun e => HM8.out.is.nz 0 e.sub rfl) (fun e => by have h1 := HN8.out.2.2 _ e.sub; have h2 := HN8.out.2.1; omega))
     have HB9 : Hid (Below w.heap.size w w9) := hide (Chg.to_below HB8.out hto.chg (fun k e => by have := HN4.out k e.sub; have := HBL.out; omega))
     clear hto hmk HAP
     unfold rpV
     dsimp only
     have hbA := (Below.refl w9.heap.size w9).alloc (Nat.le_refl _) (.cells #[.int .i64 80, .int .i64 0, .int .i64 0, .int .i64 0, .int .i64 0, .int .i64 0, .int .i64 0, .int .i64 0] 66)
     have HMA := hide (HM9.out.below hbA)
     have HCA := hide (HC9.out.below hbA)
     have HBA := hide (bthen HB9.out hbA)
     have heq80 : ∀ U, (binOp .eql 66 (.agg #[.int .i64 80, .int .i64 0, .int .i64 0, .int .i64 0, .int .i64 0, .int .i64 0, .int .i64 0, .int .i64 0]) (.agg #[.int .i64 80, .int .i64 0, .int .i64 0, .int .i64 0, .int .i64 0, .int .i64 0, .int .i64 0, .int .i64 0])).run Tryz.prog U = .ok (.bool true) U := fun U => by
      have h1 := rp_eql ⟨80, 0, 0, 0, 0, 0, 0, 0⟩ ⟨80, 0, 0, 0, 0, 0, 0, 0⟩ U
      rw [decide_eq_true rfl] at h1
      exact h1
     have hbq : (M3.ix + 1 == M3.ix + 1) = true := by simp
     clear hbA
     go_wp2_with fail
     refine (mseats_is HCA.out).mono ?_
     rintro e u1 ⟨q1, r1, s1, rfl, g1, h1⟩
     have HCB := hide (HCA.out.below h1)
     have HMB := hide (HMA.out.below h1)
     have HBB := hide (bthen HBA.out h1)
     have HG1 := hide g1
     clear g1 h1
     go_wp2_with fail
     refine (mseats_is HMB.out).mono ?_
     rintro e u2 ⟨q2, r2, s2, rfl, g2', h2⟩
     have HE2 := hide (equalT_true (HG1.out.below h2) g2')
     have HCC := hide (HCB.out.below h2)
     have HMC := hide (HMB.out.below h2)
     have HBC := hide (bthen HBB.out h2)
     clear g2' h2
     go_wp2_with fail
     refine HE2.out.mono ?_
     rintro e u3 ⟨rfl, h3⟩
     have HCD := hide (HCC.out.below h3)
     have HMD := hide (HMC.out.below h3)
     have HBD := hide (bthen HBC.out h3)
     clear h3
     go_wp2_with fail
     refine (mtraces_is HCD.out).mono ?_
     rintro e u4 ⟨q4, r4, s4, rfl, g4, h4⟩
     have HCE := hide (HCD.out.below h4)
     have HME := hide (HMD.out.below h4)
     have HBE := hide (bthen HBD.out h4)
     have HG4 := hide g4
     clear g4 h4
     go_wp2_with fail
     refine (mtraces_is HME.out).mono ?_
     rintro e u5 ⟨q5, r5, s5, rfl, g5, h5⟩
     have HE5 := hide (eqTrs_any (HG4.out.below h5) g5 rfl)
     have HCF := hide (HCE.out.below h5)
     have HMF := hide (HME.out.below h5)
     have HBF := hide (bthen HBE.out h5)
     clear g5 h5
     go_wp2_with fail
     refine HE5.out.mono ?_
     rintro e u6 ⟨rfl, h6⟩
     have HCG := hide (HCF.out.below h6)
     have HMG := hide (HMF.out.below h6)
     have HBG := hide (bthen HBF.out h6)
     clear h6
     go_wp2_with fail
     refine (mindex_any HMG.out).mono ?_
     rintro e u7 ⟨rfl, rfl⟩
     go_wp2_with fail
     refine (mindex_any HCG.out).mono ?_
     rintro e u8 ⟨rfl, rfl⟩
     go_wp2_with fail
     refine (mawake_any (HE.out.below HBG.out)).mono ?_
     rintro e wz ⟨rfl, hbz⟩
     go_wp2_with fail
     go_ret
     exact ⟨rfl, bthen HBG.out hbz⟩
    ·clear hb7 ho7 hok x6 HMP
     go_wp2_with fail
     refine (mawake_any (HE.out.below HB7.out)).mono ?_
     rintro e wz ⟨rfl, hbz⟩
     go_wp2_with fail
     go_ret
     exact ⟨rfl, HB7.out.trans (hbz.mono HB7.out.size)⟩
   ·have HB7 : Hid (Below w.heap.size w w7) := hide (HB6.out.trans (hb7.mono HB6.out.size))
    clear hb7 hno x6 HMP
    go_wp2_with fail
    refine (mawake_any (HE.out.below HB7.out)).mono ?_
    rintro e wz ⟨rfl, hbz⟩
    go_wp2_with fail
    go_ret
    exact ⟨rfl, HB7.out.trans (hbz.mono HB7.out.size)⟩
end Go.Proofs.YtionbmlicmibgaaGreatDoor
namespace Go.Proofs.YtionbmlicmibgaaGreatDoor.machineEnds
open Go.ChangeShapes Go.WideShapes Go.ChangeAt Go.RowKit
open Go.ChangeMaps (open_string shut_string)
set_option linter.unusedVariables false

theorem laidOut : laidOutB Tryz.prog = true := by kernel_rfl

set_option maxRecDepth 100000 in
theorem reads (os : Os) {H : Type} (enc : TypeId × Value → H) : ∃ places, DataW.whole enc Tryz.prog ((laidWorld os).forCall (fun _ _ => 0) ⟨#[], #[.slice none 0 0, .int .i64 0, .slice none 0 0], []⟩).memory Tryz.f11.params.toList Rows.machineEndsSpec.vars false (#[.slice none 0 0, .int .i64 0, .slice none 0 0] : Array Value).toList 8 = some ([.nil, .lit (.int .i64 0), .nil], [], places) :=
 ⟨[], by kernel_rfl⟩
set_option maxRecDepth 100000 in
theorem lifted (os : Os) (started : os.Started) (H : Type) (enc : TypeId × Value → H) (F : Stop.Interp) :
  ReturnsInHanded {} Tryz.checked os 11 .any ((Rows.OpenSpec.upto Rows.machineEndsSpec).preRow enc Tryz.prog Tryz.f11 Rows.machineEndsUptoRow.domain false Rows.machineEndsUptoRow.laid) (((Rows.OpenSpec.upto Rows.machineEndsSpec).at F).post enc Tryz.prog Tryz.f11 false true false false) := by
 obtain ⟨places, hx⟩ := reads os enc
 refine returnsInHanded_of_row (C := Tryz.checked) (s := Rows.OpenSpec.upto Rows.machineEndsSpec) Tryz.own started (by kernel_rfl) Tryz.func11
  (witness_row_at (enc := enc) (C := Tryz.checked) false (laidWorld os) #[.slice none 0 0, .int .i64 0, .slice none 0 0] rfl (by kernel_rfl) (by kernel_rfl) (by kernel_rfl)
   (OpenSpec.preRow_of_cond 8 hx (by kernel_rfl) (fun k hk => by cases hk; kernel_rfl) (by kernel_rfl) (laidWorld_met os _))) ?_
 intro W base args ds gs before hval0 hW _ hcond hsz0 hL _ _
 have hk := hcond _ rfl
 have hErr := errT_of_laid hL
 have hval : ∀ (j : Nat) t v, Tryz.f11.params[j]? = some t → args[j]? = some v → Value.okWide Tryz.prog W .any base t v := hval0
 have hW' := hW
 obtain ⟨p, q, hA0, hV, rfl, hfz, hnd⟩ := hW
 have hA : DataW.TrodAll enc Tryz.prog W 0 (fun _ => true) true Tryz.f11.params.toList args.toList ds p := hA0
 rw [Tryz.params11] at hA hval
 obtain ⟨v0, vs0, d0, ds0, p0, q0, hargs, rfl, rfl, h0, r0⟩ := trodAll_cons hA
 obtain ⟨v1, vs1, d1, ds1, p1, q1, rfl, rfl, rfl, h1, r1⟩ := trodAll_cons r0
 obtain ⟨v2, vs2, d2, ds2, p2, q2, rfl, rfl, rfl, h2, r2⟩ := trodAll_cons r1
 obtain ⟨rfl, rfl, rfl⟩ := trodAll_nil r2
 obtain rfl : args = #[v0, v1, v2] := by cases args; simp_all
 obtain ⟨rfl, rfl⟩ := trodVars_none hV
 obtain ⟨a0, len0, cap0, rfl⟩ := okWide_slice Tryz.underlying45 (hval 0 45 v0 rfl rfl)
 have k0 := h0
 have lt0 : ∀ x ∈ p0, x.block < W.heap.size := by obtain ⟨m, hm⟩ := k0; exact DataW.trod_lt m _ _ _ hm
 obtain ⟨a1, rfl, rfl, rfl, w1⟩ := open_int Tryz.underlying3 (hval 1 3 v1 rfl rfl) h1
 obtain ⟨a2, len2, cap2, rfl⟩ := okWide_slice Tryz.underlying22 (hval 2 22 v2 rfl rfl)
 have k2 := h2
 have lt2 : ∀ x ∈ p2, x.block < W.heap.size := by obtain ⟨m, hm⟩ := k2; exact DataW.trod_lt m _ _ _ hm
 obtain ⟨D0, hl0, hD0, hk0⟩ := dms_of_arg h0
 have hb0 : Rows.uptoBulk d0 ≤ 1048576 := by
  have h : Rows.uptoBulkAll _ ≤ 1048576 := of_decide_eq_true hk
  exact Nat.le_trans (bulk_part (by simp)) h
 obtain ⟨l2, hs2, hn2⟩ := sps_of_arg h2
 clear hA0 hval0
 refine (lawMEnds_any hErr hD0 (fun d hd => Nat.le_trans (hk0 d hd) hb0) a1 w1 hs2 hn2).mono fun e W' ⟨he, bel⟩ => ?_
 subst he
 exact ⟨_, rfl, _, _, _, [], _, [], hW', trodAll_mk1 (shut_bool Tryz.underlying4 _), (trodAll_cons_mk (Below.trod laidOut (by kernel_rfl) (of_decide_eq_true (by kernel_rfl)) k0 bel lt0) (trodAll_cons_mk (shut_int Tryz.underlying3 w1) (trodAll_cons_mk (Below.trod laidOut (by kernel_rfl) (of_decide_eq_true (by kernel_rfl)) k2 bel lt2) trodAll_mk0))), rfl, bel.frame _, fun h => by cases h⟩

set_option maxHeartbeats 16000000 in
theorem cl : joinedFacts Tryz.pinned.checked.prog 11 Tryz.f11 Rows.machineEndsSpec Rows.machineEndsUptoRow = true := by
 unfold joinedFacts
 simp only [Bool.and_eq_true]
 repeat' apply And.intro
 all_goals (as_aux_lemma => kernel_rfl)
theorem fnm : Tryz.pinned.checked.prog.funcNamed Rows.machineEndsUptoRow.func = some 11 := by kernel_rfl
theorem inst : Tryz.f11.isInstance Tryz.pinned.checked.prog Rows.machineEndsUptoRow.origin Rows.machineEndsUptoRow.targs := of_decide_eq_true (by kernel_rfl)
theorem wr : Tryz.f11.isWrapper Tryz.pinned.checked.prog Rows.machineEndsUptoRow.wrapper Rows.machineEndsUptoRow.mainSum := by unfold Func.isWrapper; first | (rw [if_pos (by decide +kernel)]; kernel_rfl) | (rw [if_neg (by decide +kernel)]; exact ⟨rfl, rfl⟩)
theorem over : Rows.MachineEndsUptoSaid :=
 OpenClaim.holds_of_cond 11 Tryz.f11 rfl rfl rfl rfl rfl rfl rfl ⟨rfl, rfl, rfl, rfl, rfl⟩ rfl rfl rfl rfl rfl fnm Tryz.func11 cl inst wr (fun os started H enc _ F => by rw [OpenClaim.pre_eq_preRow]; exact lifted os started H enc F)
theorem named : Tryz.prog.funcNamed "spandrel/spandrellaw09.MachineEnds" = some 11 := by kernel_rfl
theorem noStand : ∀ t ∈ [45, 3, 22], Tryz.prog.wantsStandIn t = false := by
 intro t ht
 simp only [List.mem_cons, List.not_mem_nil, or_false] at ht
 rcases ht with rfl | rfl | rfl <;> kernel_rfl

theorem proved : Rows.MachineEndsUptoCardSaid :=
 Claim7.holds_tied_plain_at .later [] [.handle] true (true, "73e4509f8480c2613f465c6520d6329ec038b933e0a1ed9711b57278fe54956a") true
  over (fun _ h => by cases h) (by kernel_rfl) (fun _ h => by cases h) machineEndsUpto_row_tie rfl ⟨rfl, rfl⟩ (by kernel_rfl) rfl
  (fun f fn hf hfn => by
   obtain rfl : f = 11 := Option.some.inj (named.symm.trans hf) |>.symm
   obtain rfl : fn = Tryz.f11 := (Option.some.inj (Tryz.func11.symm.trans hfn)).symm
   exact ⟨by kernel_rfl, fun j t ht => by
    rw [Tryz.params11] at ht
    exact noStand t (by
     have := Array.mem_of_getElem? ht
     simpa using this)⟩)
  (by kernel_rfl)
end Go.Proofs.YtionbmlicmibgaaGreatDoor.machineEnds
