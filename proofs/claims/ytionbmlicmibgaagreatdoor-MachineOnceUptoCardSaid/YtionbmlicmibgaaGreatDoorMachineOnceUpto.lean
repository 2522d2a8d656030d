/- MachineOnce (P9.6), second form: an ingest that was done, and comes again as often as one likes, whatever others do between, answers the same, and puts nothing in. Condition: errors.errorType holds what the program's text lays there (the card ties it). -/
import Derived.Test.YtionbmlicmibgaaGreatDoorRows
import Derived.Test.YtionbmlicmibgaaGreatDoorMcErr
import Derived.ChangeSame
import Derived.ChangeVars
import Derived.JoinedOf
import Derived.RowKit
import Derived.RowKitTokens
import Derived.LaidLaws
import Derived.LaidHandle
import Derived.Stop.Joined
import Derived.Test.YtionbmlicmibgaaGreatDoorMcEnt
import Derived.Test.YtionbmlicmibgaaGreatDoorMcKit
import Derived.Test.YtionbmlicmibgaaGreatDoorCards
import Derived.Test.YtionbmlicmibgaaGreatDoorTie
import Derived.Test.YtionbmlicmibgaaGreatDoorMcArg
import Derived.SevenTiedAt
import Derived.Deep.DeepHandedRow
import Derived.WalkKit
import Derived.ProofKit
import Derived.OpenShut
import Derived.ShutString
import Derived.ChangeOld
import Derived.Below
import Derived.SizedLaws
namespace Go.Proofs.YtionbmlicmibgaaGreatDoor
set_option linter.unusedVariables false
set_option linter.unusedSimpArgs false
open Go.ChangeShapes Go.WideShapes Go.RowKit
theorem Tryz.own : ownKnob Tryz.prog.godebug = none := by kernel_rfl
theorem Tryz.et : Tryz.prog.globalNamed "errors.errorType" = some 0 := by kernel_rfl
theorem Tryz.rt : (Tryz.prog.cutTypes.find? (·.1 == "internal/reflectlite.rtype")).map (·.2) = some 242 := by kernel_rfl
theorem Tryz.oneRow : ((List.range 334).filter fun t => Tryz.prog.rowNamed t [101, 114, 114, 111, 114]) = [175] := by kernel_rfl
theorem Tryz.size : Tryz.prog.types.size = 334 := by kernel_rfl
def laidL : List (String × DataW Unit) := [("errors.errorType", Rows.laid_errors_errorType)]
theorem errT_of_laid {W : World} (h : laidMetH Tryz.prog laidL W) : ErrT W := by
 have h' : laidMet Tryz.prog [] W ∧ handlesMet Tryz.prog laidL W := h
 obtain ⟨name, u, ty, e1, e2, e3, e4, e5⟩ := h'.2 _ (List.mem_singleton.2 rfl)
 have en : name = [101, 114, 114, 111, 114] := (Option.some.inj e1).symm
 subst en
 obtain rfl := Option.some.inj (Tryz.rt.symm.trans e2)
 have hm : ty ∈ (List.range 334).filter fun t => Tryz.prog.rowNamed t [101, 114, 114, 111, 114] := List.mem_filter.2 ⟨List.mem_range.2 (by rw [← Tryz.size]; exact e3), e4⟩
 rw [Tryz.oneRow] at hm
 obtain rfl := List.mem_singleton.1 hm
 have hh : typeHandle Tryz.prog 175 = .pointer (some ⟨2, 175, none⟩) := by kernel_rfl
 rw [hh] at e5
 have h9 := World.var?_cell Tryz.et e5 0
 unfold ErrT
 simpa using h9
noncomputable def laidWorld (os : Os) : World :=
 let w0 := World.holding Tryz.prog os ⟨#[], #[], []⟩
 { w0 with heap := w0.heap.modify 0 fun
   | .cells _ t frozen => .cells #[.iface 242 (.agg #[.pointer (some ⟨2, 175, none⟩)])] t frozen
   | o => o }
theorem laidWorld_met (os : Os) (args : Array Value) : laidMetH Tryz.prog laidL ((laidWorld os).forCall (fun _ _ => 0) ⟨#[], args, []⟩).memory :=
 laidMetH_of_parts (laidMet_nil _ _) (by kernel_rfl)
end Go.Proofs.YtionbmlicmibgaaGreatDoor
namespace Go.Proofs.YtionbmlicmibgaaGreatDoor
set_option linter.unusedVariables false
set_option linter.unusedSimpArgs false
open Go.RowKit
end Go.Proofs.YtionbmlicmibgaaGreatDoor
namespace Go.Proofs.YtionbmlicmibgaaGreatDoor
set_option linter.unusedVariables false
set_option linter.unusedSimpArgs false
open Go.RowKit
def DoneM (m : Mp) (se sq : Int) (r : Rp) : Prop := ∃ a, fndT m.L se = some ⟨se, sq, a, r⟩
theorem DoneM.ask {m : Mp} {se sq : Int} {r : Rp} (h : DoneM m se sq r) (h1 : 1 ≤ sq) : askT m.L se sq = (r, true, 0) := by
 obtain ⟨a, h⟩ := h
 unfold askT
 rw [h]
 dsimp only
 rw [if_neg (by omega), if_pos rfl]
theorem ingC_sum (S : List Pl) (l : List Sp) : (ingC S l).sum ≤ l.length := by
 unfold ingC
 split
 ·rw [puts_sum]
  exact Nat.le_refl _
 ·show 0 + 0 + 0 + 0 + 0 ≤ _
  omega
theorem rpN_ok {n : Cn} (h : n.sum ≤ 1000) : (rpN n).ok = true := by
 unfold Cn.sum at h
 unfold rpN Rp.ok Rp.nums
 simp only [List.all_cons, List.all_nil, Bool.and_true, Bool.and_eq_true, n40_iff]
 omega
theorem nxt_next {m : Mp} (hi : m.ix + 1 ≤ 1099511627776) (h0 : 0 ≤ m.ix) (ht : m.tm ≤ 1099511627776) : m.nxt (m.ix + 1) (max m.tm 1) = true := by
 unfold Mp.nxt btw
 simp
 omega
theorem appM_of {m M : Mp} {i t : Int} {l : List UInt8} {c : Cm} {r : Rp} (hx : m.nxt i t = true) (hg : getC l = some c) (hc : cmdM { m with ix := i, tm := t } (some c) = (r, 0, M)) : appM m i t l = (r, 0, M) := by
 unfold appM
 rw [if_pos hx]
 unfold doM
 rw [hg, hc]
 dsimp only
 rw [if_pos rfl]
theorem appM_first {m : Mp} {s : St} {sp : List Sp} (hL : TbOk m.L) (hs : s ∈ m.L) (hok : Cm.ok ⟨2, s.s, s.q + 1, 0, sp, []⟩ = true) (hi : m.ix + 1 ≤ 1099511627776) (h0 : 0 ≤ m.ix) (ht : m.tm ≤ 1099511627776) :
  appM m (m.ix + 1) (max m.tm 1) (Cm.bytes ⟨2, s.s, s.q + 1, 0, sp, []⟩) = (rpN (ingC m.S sp), 0, ⟨m.ix + 1, max m.tm 1, m.vo, ingS m.S sp, insT m.L ⟨s.s, s.q + 1, m.ix + 1, rpN (ingC m.S sp)⟩⟩) := by
 have hf := fndT_of hL.rises.ids hs
 have hso := St.ok_iff.1 (hL.ok s hs)
 obtain ⟨h1, h2, h3⟩ : btw 1 s.s 1099511627776 = true ∧ btw 1 (s.q + 1) 1099511627776 = true ∧ spsOk sp = true := by
  rcases (Cm.ok_iff _).1 hok with ⟨h, _⟩ | ⟨_, _, h⟩ | ⟨h, _⟩ | ⟨h, _⟩ | ⟨h, _⟩
  ·dsimp only at h; omega
  ·exact h
  ·dsimp only at h; omega
  ·dsimp only at h; omega
  ·dsimp only at h; omega
 have h4 := btw_iff.1 h2
 have ha : askT m.L s.s (s.q + 1) = (rp0, false, 0) := by
  unfold askT
  rw [hf]
  dsimp only
  rw [if_neg (by omega), if_neg (by omega), if_neg (by omega)]
 have hc : (ingC m.S sp).sum ≤ 1000 := Nat.le_trans (ingC_sum _ _) (by have := (spsOk_ok h3).2.1; omega)
 have hk : (⟨s.s, s.q + 1, m.ix + 1, rpN (ingC m.S sp)⟩ : St).ok = true := St.ok_iff.2 ⟨hso.1, by dsimp only; omega, by dsimp only; omega, rpN_ok hc⟩
 refine appM_of (nxt_next hi h0 ht) (getC_bytes hok) ?_
 unfold cmdM
 dsimp only
 rw [if_neg (by decide), if_pos rfl]
 unfold ingM
 dsimp only
 rw [ha]
 dsimp only
 rw [if_neg (by simp)]
 unfold keepT
 rw [ha]
 dsimp only
 rw [if_neg (by simp), if_neg (by simp), if_pos hk]
theorem DoneM.first {L : List St} {se sq a i t : Int} {vo : List Int} {S : List Pl} {r : Rp} : DoneM ⟨i, t, vo, S, insT L ⟨se, sq, a, r⟩⟩ se sq r := ⟨a, by dsimp only; rw [fndT_ins, if_pos rfl]⟩
theorem appM_again {m : Mp} {se sq : Int} {r : Rp} {sp : List Sp} (h : DoneM m se sq r) (hok : Cm.ok ⟨2, se, sq, 0, sp, []⟩ = true) (hi : m.ix + 1 ≤ 1099511627776) (h0 : 0 ≤ m.ix) (ht : m.tm ≤ 1099511627776) :
  appM m (m.ix + 1) (max m.tm 1) (Cm.bytes ⟨2, se, sq, 0, sp, []⟩) = (r, 0, { m with ix := m.ix + 1, tm := max m.tm 1 }) := by
 have h2 : btw 1 sq 1099511627776 = true := by
  rcases (Cm.ok_iff _).1 hok with ⟨h, _⟩ | ⟨_, _, h⟩ | ⟨h, _⟩ | ⟨h, _⟩ | ⟨h, _⟩
  ·dsimp only at h; omega
  ·exact h.2.1
  ·dsimp only at h; omega
  ·dsimp only at h; omega
  ·dsimp only at h; omega
 have ha := h.ask (btw_iff.1 h2).1
 refine appM_of (nxt_next hi h0 ht) (getC_bytes hok) ?_
 unfold cmdM
 dsimp only
 rw [if_neg (by decide), if_pos rfl]
 unfold ingM
 dsimp only
 rw [ha]
 dsimp only
 rw [if_pos (Or.inr rfl)]
theorem DoneM.ixt {m : Mp} {se sq i t : Int} {r : Rp} (h : DoneM m se sq r) : DoneM { m with ix := i, tm := t } se sq r := h
theorem DoneM.tab {m : Mp} {se sq : Int} {r : Rp} {L : List St} {i t : Int} {vo : List Int} {S : List Pl} (h : DoneM m se sq r) (hL : fndT L se = fndT m.L se) : DoneM ⟨i, t, vo, S, L⟩ se sq r := by
 obtain ⟨a, h⟩ := h
 exact ⟨a, hL.trans h⟩
theorem DoneM.cmd {m : Mp} {se sq : Int} {r : Rp} (h : DoneM m se sq r) : ∀ (c : Option Cm), (∀ x, c = some x → x.k ≠ 3 ∧ x.se ≠ se) → DoneM (cmdM m c).2.2 se sq r
 | none, _ => h
 | some c, hc => by
  obtain ⟨h3, h4⟩ := hc c rfl
  unfold cmdM
  dsimp only
  split
  ·refine h.tab ?_
   unfold openT
   split
   ·rfl
   ·rename_i h1
    split
    ·rfl
    ·dsimp only
     rw [fndT_ins]
     dsimp only
     split
     ·rename_i h2
      obtain ⟨a, h⟩ := h
      rw [h2, h] at h1
      simp at h1
     ·rfl
  ·split
   ·unfold ingM
    split
    ·exact h
    ·refine h.tab ?_
     unfold keepT
     split
     ·rfl
     ·split
      ·rfl
      ·split
       ·dsimp only
        rw [fndT_ins]
        dsimp only
        rw [if_neg h4]
       ·rfl
   ·split
    ·exact h
    ·split <;> exact h
theorem getC_nil : getC [] = none := by
 cases h : getC [] with
 | none => rfl
 | some c =>
  have := (getC_some h).2.1
  unfold Cm.bytes at this
  have h1 := digits_pos c.k.toNat
  have h2 := congrArg List.length this
  rw [List.length_append, List.length_nil] at h2
  omega
theorem getC_pB {c x : Cm} (h : getC (pB c) = some x) : x = c := by
 unfold pB at h
 split at h
 ·rename_i hok
  rw [getC_bytes hok] at h
  injection h with h
  exact h.symm
 ·rw [getC_nil] at h
  cases h
theorem DoneM.step {m : Mp} {se sq : Int} {r : Rp} (h : DoneM m se sq r) {d : Dm} (hk : d.k ≠ 3) (hs : d.se ≠ se) (hq : dqK d.op < 4) : DoneM (stepM m d) se sq r := by
 have he : d.eL = pB d.c := by unfold Dm.eL; rw [if_neg (by omega), if_neg (by omega)]
 unfold stepM appM
 rw [he]
 split
 ·have hd : DoneM (cmdM { m with ix := d.eI m.ix, tm := d.eT m.tm } (getC (pB d.c))).2.2 se sq r := by
   refine DoneM.cmd h.ixt _ fun x hx => ?_
   rw [getC_pB hx]
   exact ⟨hk, hs⟩
  unfold doM
  dsimp only
  split <;> exact hd
 ·exact h
theorem DoneM.play1 {m : Mp} {se sq : Int} {r : Rp} (h : DoneM m se sq r) {d : Dm} (hk : d.k ≠ 3) (hs : d.se ≠ se) (hq : dqK d.op < 4) : DoneM (playM m [d]) se sq r := h.step hk hs hq
theorem hi_mono : ∀ (b a : Nat), a ≤ b → (hi a).length ≤ (hi b).length := by
 intro b
 induction b using Nat.strongRecOn with
 | ind b ih =>
  intro a hab
  by_cases h0 : a = 0
  ·subst h0
   rw [hi_zero]
   simp
  ·rw [hi_pos h0, hi_pos (show b ≠ 0 by omega)]
   have := ih (b / 128) (by omega) (a / 128) (by omega)
   simp
   exact this
theorem digits_mono {a b : Nat} (h : a ≤ b) : (digits a).length ≤ (digits b).length := by
 unfold digits
 have := hi_mono (b / 128) (a / 128) (by omega)
 simp
 exact this
theorem imgM_grows {m : Mp} {i t : Int} (hi : m.ix ≤ i) (ht : m.tm ≤ t) : (imgM m).length ≤ (imgM { m with ix := i, tm := t }).length := by
 unfold imgM
 have h1 := digits_mono (show m.ix.toNat ≤ i.toNat by omega)
 have h2 := digits_mono (show m.tm.toNat ≤ t.toNat by omega)
 simp only [List.length_append, nmB_cons]
 omega
end Go.Proofs.YtionbmlicmibgaaGreatDoor
namespace Go.Proofs.YtionbmlicmibgaaGreatDoor
set_option linter.unusedVariables false
set_option linter.unusedSimpArgs false
open Go.RowKit
section
variable {w0 w w' : World} {ga gb gc : Nat} {Pa Pb Pc Pa' : Pm} {a b c a' : Mp}
theorem mapply_ts {m : Mp} {gm : Nat} {P : Pm} (h : MkIs w gm P m) {ix tm : Int} {v : Value} {l : List UInt8} (hv : By w v l) (hl : l.length ≤ 1100000) : Calls Tryz.prog 32 #[.pointer (some ⟨gm, 0, none⟩), .agg #[.int .i64 ix, .int .i64 tm, v]] w fun e w' => e = .returned (.tuple #[rpV (appM m ix tm l).1, .int .i64 (appM m ix tm l).2.1]) ∧ ∃ P', McTs w w' gm P P' (appM m ix tm l).2.2 :=
 (mapply_any h hv hl).mono fun e w' ⟨h1, P', h2, h3⟩ => ⟨h1, P', h3, h2.gi, h2.new, h2.chg.mono (fun k e => e.sub)⟩
end
end Go.Proofs.YtionbmlicmibgaaGreatDoor
namespace Go.Proofs.YtionbmlicmibgaaGreatDoor
set_option linter.unusedVariables false
set_option linter.unusedSimpArgs false
open Go.RowKit
theorem By.chgO {w w' : World} {S : Nat → Prop} {v : Value} {l : List UInt8} (h : By w v l) (hc : Chg w w' S) (hne : l = [] ∨ ∀ k, v.ownBlock = some k → ¬ S k) : By w' v l := by
 obtain ⟨p, c, e, h1, h2, h3, h4⟩ := h
 refine ⟨p, c, e, h1, h2, h3, fun a ha i x hx => ?_⟩
 refine hc.cell (h4 a ha i x hx) ?_
 subst e
 rcases hne with rfl | hne
 ·simp at hx
 ·rw [block_add]
  exact hne _ (by rw [ha]; rfl)
structure OncW (w0 w : World) (gm cb fb : Nat) (P : Pm) (m : Mp) (se sq : Int) (r : Rp) (v : Value) (bs : List UInt8) : Prop where
 bel : Below w0.heap.size w0 w
 is : MkIs w gm P m
 hi : ∀ k, McS P k → w0.heap.size ≤ k
 c1 : w.cell? ⟨cb, 1, none⟩ = some (.int .i64 se)
 cn : ¬ McS P cb
 f : RowR w fb r
 fn : ¬ McS P fb
 by_ : By w v bs
 bn : bs = [] ∨ ∀ k, v.ownBlock = some k → ¬ McS P k
 dn : DoneM m se sq r
section
variable {w0 w w' : World} {gm cb fb : Nat} {P P' : Pm} {m m' : Mp} {se sq : Int} {r : Rp} {v : Value} {bs : List UInt8}
theorem OncW.below (h : OncW w0 w gm cb fb P m se sq r v bs) (hb : Below w.heap.size w w') : OncW w0 w' gm cb fb P m se sq r v bs :=
 ⟨bthen h.bel hb, h.is.below hb, h.hi, (hb.cell (lt_of_cell h.c1)).trans h.c1, h.cn, h.f.below hb, h.fn, h.by_.below hb, h.bn, h.dn⟩
theorem OncW.step (h : OncW w0 w gm cb fb P m se sq r v bs) (ht : McTs w w' gm P P' m') (hd : DoneM m' se sq r) : OncW w0 w' gm cb fb P' m' se sq r v bs := by
 have hs := h.bel.size
 have hz : ∀ k, k < w.heap.size → ¬ McS P k → ¬ McS P' k := fun k hk hn e => by
  rcases ht.new k e with e | e
  ·exact hn e
  ·omega
 exact ⟨Chg.to_below h.bel ht.chg h.hi, ht.am, fun k hk => by
   rcases ht.new k hk with e | e
   ·exact h.hi k e
   ·omega, ht.chg.cell h.c1 h.cn, hz cb (lt_of_cell h.c1) h.cn, h.f.chg ht.chg h.fn, hz fb h.f.lt h.fn, h.by_.chgO ht.chg h.bn, by
   rcases h.bn with e | e
   ·exact .inl e
   ·rcases h.by_.ltM with q | q
    ·exact .inl q
    ·exact .inr fun k hk => hz k (q k hk) (e k hk), hd⟩
end
theorem OncW.step' {w0 w w1 w' : World} {gm cb fb : Nat} {P P' : Pm} {m m' : Mp} {se sq : Int} {r : Rp} {v : Value} {bs : List UInt8} (h : OncW w0 w gm cb fb P m se sq r v bs) (ht : Below w.heap.size w w1 ∧ McTs w1 w' gm P P' m') (hd : DoneM m' se sq r) : OncW w0 w' gm cb fb P' m' se sq r v bs := (h.below ht.1).step ht.2 hd
theorem Dms.lit {U : World} {g : Nat} {d : Dm} (hin : DmIn U d) (hr : U.heap[g]? = some (.cells (dmC d).toArray 57 (0, 0))) : Dms U (.slice (some ⟨g, 0, none⟩) 1 1) [d] := by
 refine ⟨_, _, rfl, by simp, by simp [maxLen], fun k x hk => ?_⟩
 match k, hk with
 | 0, hk =>
  injection hk with hk
  subst hk
  refine ⟨g, 0, rfl, hin, fun i y hy => ?_⟩
  have h1 := cell_of_row U g i _ 57 (0, 0) hr
  rw [show 0 + 0 * 11 + i = i by omega, h1]
  simpa using hy
 | k + 1, hk => cases hk
theorem play_lit {w0 W : World} {gm : Nat} {P : Pm} {m : Mp} {d : Dm} (h : MkIs W gm P m) (hi : ∀ k, McS P k → w0.heap.size ≤ k) (hb : Below w0.heap.size w0 W) (hin : ∀ U, Below w0.heap.size w0 U → DmIn U d) (h1 : SmS d.sp) (h2 : d.by_.length ≤ 1048576) :
  Calls Tryz.prog 38 #[.pointer (some ⟨gm, 0, none⟩), .slice (some ⟨W.heap.size, 0, none⟩) 1 1] (W.alloc (.cells (dmC d).toArray 57)) fun e w' => e = .returned (.tuple #[]) ∧ ∃ P', Below W.heap.size W (W.alloc (.cells (dmC d).toArray 57)) ∧ McTs (W.alloc (.cells (dmC d).toArray 57)) w' gm P P' (playM m [d]) := by
 have hbA := (Below.refl W.heap.size W).alloc (Nat.le_refl _) (.cells (dmC d).toArray 57)
 have hr := heap_alloc_new W (.cells (dmC d).toArray 57)
 refine (mplay_any (h.below hbA) (D := [d]) (fun U hU => ?_) (fun x hx => by rw [List.mem_singleton] at hx; subst hx; exact h1) (fun x hx => by rw [List.mem_singleton] at hx; subst hx; exact h2)).mono fun e w' ⟨he, P', ht⟩ => ⟨he, P', hbA, ht⟩
 refine Dms.lit (hin U (Chg.to_below (bthen hb hbA) hU hi)) ?_
 refine (hU.block _ (Array.getElem?_eq_some_iff.1 hr).1 fun e => ?_).trans hr
 have := h.is.lt _ e
 omega
theorem brsTrue_any {w : World} {v1 v2 : Value} {l : List Br} (h1 : Brs w v1 l) (h2 : Brs w v2 l) : Calls Tryz.prog 46 #[v1, v2] w fun e w' => e = .returned (.bool true) ∧ Below w.heap.size w w' :=
 (equalBr_any h1 h2).mono fun e w' ⟨he, q, hw⟩ => ⟨by rw [he, decide_eq_true rfl], by rw [hw]; exact bdrew w q⟩
theorem mlookup_is {w : World} {gm : Nat} {P : Pm} {m : Mp} (h : MkIs w gm P m) {k : Int} (hk : (Lit.int .i64 k).wf = true) : Calls Tryz.prog 47 #[.pointer (some ⟨gm, 0, none⟩), .int .i64 k] w fun e w' => ∃ p n c, e = .returned (.slice p n c) ∧ Brs w' (.slice p n c) (lookS m.S k) ∧ Below w.heap.size w w' := (mlookup_tell h hk).mono fun e w' ⟨v, he, ho, hb⟩ => by
 obtain ⟨p, n, c, rfl⟩ := ho.brs.sl
 exact ⟨p, n, c, he, ho.brs, hb⟩
set_option maxRecDepth 200000 in
set_option maxHeartbeats 16000000 in
theorem lawMOnce_any {w : World} (hE : ErrT w) {p : Option Addr} {n c : Nat} {D : List Dm} (hD : Dms w (.slice p n c) D) (hbk : ∀ d ∈ D, d.by_.length ≤ 1048576) {p2 : Option Addr} {n2 c2 : Nat} {D2 : List Dm} (hD2 : Dms w (.slice p2 n2 c2) D2) (hbk2 : ∀ d ∈ D2, d.by_.length ≤ 1048576) {ps : Option Addr} {ns cs : Nat} {sp : List Sp} (hs : Sps w (.slice ps ns cs) sp) (hnm : ∀ x ∈ sp, x.n.size ≤ maxLen) : Calls Tryz.prog 10 #[.slice p n c, .slice p2 n2 c2, .slice ps ns cs] w fun e w' => e = .returned (.bool true) ∧ Below w.heap.size w w' := by
 have HE := hide hE
 have HD := hide hD
 have HD2 := hide hD2
 have HS := hide (And.intro hs hnm)
 have HBK := hide (And.intro hbk hbk2)
 have HN : Hid (D2.length = n2 ∧ n2 ≤ c2 ∧ c2 ≤ maxLen) := hide (by
  obtain ⟨_, _, e2, b1, b2, _⟩ := hD2
  injection e2 with _ e2 e4
  subst e4
  omega)
 have HSH := hide (mshort_any hD)
 have hn8 : (n2 : Int) ≤ 9223372036854775807 := by have := HN.out; unfold maxLen at this; omega
 clear hE hD hD2 hs hnm hbk hbk2
 go_enter Tryz.func10, Tryz.ntmps10
 go_wp2_with fail
 refine HSH.out.mono ?_
 rintro e w1 ⟨⟨q, rfl, hq⟩, hb1⟩
 have HB1 : Hid (Below w.heap.size w w1) := hide hb1
 have HQ := hide hq
 clear hb1 hq HSH
 cases q
 ·go_wp2_with fail
  refine (mawake_any (HE.out.below HB1.out)).mono ?_
  rintro e wz ⟨rfl, hbz⟩
  go_wp2_with fail
  go_ret
  exact ⟨rfl, bthen HB1.out hbz⟩
 ·go_wp2_with fail
  refine (mshort_any (HD2.out.below HB1.out)).mono ?_
  rintro e w2 ⟨⟨q2, rfl, hq2⟩, hb2⟩
  have HB2 : Hid (Below w.heap.size w w2) := hide (bthen HB1.out hb2)
  have HQ2 := hide hq2
  clear hb2 hq2
  cases q2
  ·go_wp2_with fail
   refine (mawake_any (HE.out.below HB2.out)).mono ?_
   rintro e wz ⟨rfl, hbz⟩
   go_wp2_with fail
   go_ret
   exact ⟨rfl, bthen HB2.out hbz⟩
  ·go_wp2_with fail
   refine (mheavy_any (HS.out.1.below HB2.out) (by simp [maxLen]) HS.out.2).mono ?_
   rintro e w3 ⟨⟨y, rfl, hy0, hy1, hsm⟩, hb3⟩
   have HB3 : Hid (Below w.heap.size w w3) := hide (bthen HB2.out hb3)
   have HSM0 := hide hsm
   clear hb3 hsm
   by_cases hy : 32768 < y
   ·have e1 : decide (32768 < y) = true := decide_eq_true hy
    go_wp2_with fail
    refine (mawake_any (HE.out.below HB3.out)).mono ?_
    rintro e wz ⟨rfl, hbz⟩
    go_wp2_with fail
    go_ret
    exact ⟨rfl, bthen HB3.out hbz⟩
   ·have e1 : decide (32768 < y) = false := decide_eq_false hy
    have HSM := hide (HSM0.out (by omega))
    go_wp2_with fail
    refine (mbegun_any (HE.out.below HB3.out)).mono ?_
    rintro e w4 ⟨gm, P0, rfl, hm4, hn4, hg4, hb4⟩
    have HB4 : Hid (Below w.heap.size w w4) := hide (bthen HB3.out hb4)
    have HM4 := hide hm4
    have HN4 : Hid ((∀ k, McS P0 k → w.heap.size ≤ k) ∧ w.heap.size ≤ gm) := hide ⟨fun k hk => Nat.le_trans HB3.out.size (hn4 k hk), Nat.le_trans HB3.out.size hg4⟩
    clear hm4 hn4 hg4 hb4
    have HDP : Hid (∀ W, Chg w4 W (McS P0) → Dms W (.slice p n c) D) := hide fun W hW => HD.out.below (Chg.to_below HB4.out hW HN4.out.1)
    go_wp2_with fail
    refine (mplay_any HM4.out HDP.out (HQ.out trivial).2 HBK.out.1).mono ?_
    rintro e w5 ⟨rfl, P5, hts⟩
    obtain ⟨M5, hM5⟩ : ∃ m5, playM ⟨0, 0, [0, 1, 2], [], []⟩ D = m5 := ⟨_, rfl⟩
    have HIX : Hid (M5.ix ≤ 80) := hide (by have h1 := playM_ix D ⟨0, 0, [0, 1, 2], [], []⟩; have h2 := (HQ.out trivial).1; rw [hM5] at h1; dsimp only at h1; omega)
    rw [hM5] at hts
    have HB5 : Hid (Below w.heap.size w w5) := hide (Chg.to_below HB4.out hts.chg HN4.out.1)
    have HM5 := hide hts.am
    have HN5 : Hid (∀ k, McS P5 k → w.heap.size ≤ k) := hide (fun k hk => by
     rcases hts.new k hk with e | e
     ·exact HN4.out.1 k e
     ·have := HB4.out.size; omega)
    clear hts hM5 HDP HM4
    go_wp2_with fail
    refine (mseats_is HM5.out).mono ?_
    rintro e w6 ⟨p6, n6, c6, rfl, hs6, hb6⟩
    have HB6 : Hid (Below w.heap.size w w6) := hide (bthen HB5.out hb6)
    have HM6 := hide (HM5.out.below hb6)
    have hlen6 := hs6.len
    cases hL : M5.L with
    | nil =>
     rw [hL] at hlen6
     obtain rfl : n6 = 0 := hlen6.1
     clear hs6 hb6 hL hlen6
     go_wp2_with fail
     refine (mawake_any (HE.out.below HB6.out)).mono ?_
     rintro e wz ⟨rfl, hbz⟩
     go_wp2_with fail
     go_ret
     exact ⟨rfl, bthen HB6.out hbz⟩
    | cons s L' =>
    have hn6 : n6 = L'.length + 1 := by rw [hL] at hlen6; exact hlen6.1
    obtain ⟨n6', rfl⟩ : ∃ k, n6 = k + 1 := ⟨_, hn6⟩
    obtain ⟨g6, o6, rfl, hcl⟩ := hs6.at_ (by omega)
    have hst6 := hcl 0 s (by rw [hL]; rfl)
    have HSM' : Hid (s ∈ M5.L) := hide (by rw [hL]; exact List.mem_cons_self ..)
    rw [Nat.zero_mul, Nat.add_zero] at hst6
    have HST6 := hide hst6
    have HSO : Hid ((1 ≤ s.s ∧ s.s ≤ 1099511627776) ∧ (0 ≤ s.q ∧ s.q ≤ 1099511627776)) := hide (by have h := St.ok_iff.1 (HM6.out.is.tb.ok.ok s HSM'.out); exact ⟨h.1, h.2.1⟩)
    clear hs6 hb6 hL hlen6 hn6 hcl hst6
    obtain ⟨ss, sq, sa, sr⟩ := s
    have x0 : ∀ q, (w6.drewN q).cell? ⟨g6, o6, none⟩ = some (.int .i64 ss) := fun _ => HST6.out.c0
    have x1 : ∀ q, (w6.drewN q).cell? ⟨g6, o6 + 1, none⟩ = some (.int .i64 sq) := fun _ => HST6.out.c1
    have y0 := HST6.out.c0
    have y1 := HST6.out.c1
    dsimp only at y0 y1
    have hz6 : ((0 : Int) == (((n6' + 1 : Nat)) : Int)) = false := by rw [beq_eq_false_iff_ne]; omega
    have hz6' : ((((n6' + 1 : Nat)) : Int) == 0) = false := by rw [beq_eq_false_iff_ne]; omega
    have hlt6 : (0 : Int) < ((n6' + 1 : Nat) : Int) := by omega
    by_cases hq40 : 1099511627776 ≤ sq
    ·have e2 : decide (1099511627776 ≤ sq) = true := decide_eq_true hq40
     go_wp2_with fail
     refine (mawake_any (HE.out.below HB6.out)).mono ?_
     rintro e wz ⟨rfl, hbz⟩
     go_wp2_with fail
     go_ret
     exact ⟨rfl, bthen HB6.out hbz⟩
    ·have e2 : decide (1099511627776 ≤ sq) = false := decide_eq_false hq40
     have hw1 : IntKind.i64.wrap (sq + 1) = sq + 1 := IntWalk.i64_in _ (by have := HSO.out.2; dsimp only at this; omega)
     have HQ40 := hide hq40
     clear hq40
     go_upto_region 10 with fail
     have hA6 := (Below.refl w6.heap.size w6).alloc (Nat.le_refl _) (.cells #[.int .i64 0, .int .i64 0, .int .i64 0, .int .i64 0, .slice none 0 0, .slice none 0 0] 25)
     have y0' := (hA6.cell (lt_of_cell y0)).trans y0
     have y1' := (hA6.cell (lt_of_cell y1)).trans y1
     clear hA6
     go_region
     obtain ⟨cb, hcb⟩ : ∃ b, w6.heap.size = b := ⟨_, rfl⟩
     obtain ⟨X, hX⟩ : ∃ X, w6.alloc (.cells #[.int .i64 2, .int .i64 ss, .int .i64 (sq + 1), .int .i64 0, .slice ps ns cs, .slice none 0 0] 25) = X := ⟨_, rfl⟩
     have hbX : Below w6.heap.size w6 X := by rw [← hX]; exact (Below.refl _ _).alloc (Nat.le_refl _) _
     have hrX : X.heap[cb]? = some (.cells #[.int .i64 2, .int .i64 ss, .int .i64 (sq + 1), .int .i64 0, .slice ps ns cs, .slice none 0 0] 25 (0, 0)) := by rw [← hX, ← hcb]; exact heap_alloc_new _ _
     rw [hX, hcb]
     have HMX : Hid (MkIs X.drew gm P5 M5) := hide ((HM6.out.below hbX).below (bdrew X 1))
     have HBX : Hid (Below w.heap.size w X.drew) := hide (bthen (bthen HB6.out hbX) (bdrew X 1))
     have HCX : Hid (X.drew.heap[cb]? = some (.cells #[.int .i64 2, .int .i64 ss, .int .i64 (sq + 1), .int .i64 0, .slice ps ns cs, .slice none 0 0] 25 (0, 0))) := hide hrX
     have HNX : Hid (¬ McS P5 cb) := hide (fun e => by have := HM6.out.is.lt cb e; omega)
     obtain ⟨Y, hY⟩ : ∃ Y, X.drew = Y := ⟨_, rfl⟩
     rw [hY] at HMX HBX HCX ⊢
     clear hcb hX hbX hrX hY x0 x1 y0 y1 hz6 hz6' hlt6 e2
     have z0 := cell_of_row Y cb 0 _ 25 (0, 0) HCX.out
     have z1 := cell_of_row Y cb 1 _ 25 (0, 0) HCX.out
     have z2 := cell_of_row Y cb 2 _ 25 (0, 0) HCX.out
     have z3 := cell_of_row Y cb 3 _ 25 (0, 0) HCX.out
     have z4 := cell_of_row Y cb 4 _ 25 (0, 0) HCX.out
     have z5 := cell_of_row Y cb 5 _ 25 (0, 0) HCX.out
     simp only [List.getElem?_toArray, List.getElem?_cons_zero, List.getElem?_cons_succ] at z0 z1 z2 z3 z4 z5
     have HCM : Hid (CmAt Y (.slice ps ns cs) (.slice none 0 0) ⟨2, ss, sq + 1, 0, sp, []⟩) := hide ⟨HS.out.1.below HBX.out, Ns.nil _, fun x hx => by have := HSM.out.2 x hx; omega⟩
     have HMP := hide (mput_any HCM.out)
     unfold cmV at HMP
     dsimp only at HMP
     go_wp2_with fail
     refine HMP.out.mono ?_
     intro e w7 hp7
     rcases hp7 with ⟨hok, p7, n7, c7, rfl, ho7, hb7⟩ | ⟨hno, rfl, hb7⟩
     case inr =>
      have HB7 : Hid (Below w.heap.size w w7) := hide (bthen HBX.out hb7)
      clear hb7 hno HMP z0 z1 z2 z3 z4 z5
      go_wp2_with fail
      refine (mawake_any (HE.out.below HB7.out)).mono ?_
      rintro e wz ⟨rfl, hbz⟩
      go_wp2_with fail
      go_ret
      exact ⟨rfl, bthen HB7.out hbz⟩
     have HB7 : Hid (Below w.heap.size w w7) := hide (bthen HBX.out hb7)
     have HM7 := hide (HMX.out.below hb7)
     have HBY := hide ho7
     have HZY : Hid (Y.heap.size ≤ w7.heap.size ∧ ∀ k, McS P5 k → k < Y.heap.size) := hide ⟨hb7.size, fun k hk => HMX.out.is.lt k hk⟩
     have HOK := hide hok
     have hc7 := (hb7.cell (lt_of_cell z1)).trans z1
     have HC7 := hide hc7
     clear hb7 ho7 hok hc7 HMP z0 z1 z2 z3 z4 z5
     have hiw : IntKind.i64.wrap (M5.ix + 1) = M5.ix + 1 := IntWalk.i64_in _ (by have := HIX.out; have := HM7.out.is.ok.i0; omega)
     have HAP := appM_first HM7.out.is.tb.ok HSM'.out HOK.out (by have := HIX.out; omega) HM7.out.is.ok.i0 HM7.out.is.ok.t1
     dsimp only at HAP
     go_wp2_with fail
     refine (mindex_any HM7.out).mono ?_
     rintro e v1 ⟨rfl, rfl⟩
     go_wp2_with fail
     refine (mterm_any HM7.out).mono ?_
     rintro e v2 ⟨rfl, rfl⟩
     go_wp2_with fail
     refine (mapply_ts HM7.out HBY.out.by_ (by have := Cm.bytes_len HOK.out; omega)).mono ?_
     intro e w8 hp8
     rw [HAP] at hp8
     obtain ⟨rfl, P8, hts⟩ := hp8
     obtain ⟨C, hC⟩ : ∃ C, rpN (ingC M5.S sp) = C := ⟨_, rfl⟩
     have hCe : C.er = 0 := by rw [← hC]; rfl
     rw [hC] at hts ⊢
     obtain ⟨M8, hM8⟩ : ∃ M, (⟨M5.ix + 1, max M5.tm 1, M5.vo, ingS M5.S sp, insT M5.L ⟨ss, sq + 1, M5.ix + 1, C⟩⟩ : Mp) = M := ⟨_, rfl⟩
     have HDN : Hid (DoneM M8 ss (sq + 1) C) := hide (by rw [← hM8]; exact DoneM.first)
     have HIX8 : Hid (M8.ix ≤ 81) := hide (by rw [← hM8]; have := HIX.out; dsimp only; omega)
     rw [hM8] at hts
     have HTS := hide hts
     clear hts HAP hM8 hiw hC
     obtain ⟨er, rs, gn, ad, sa, ot, cy, fu⟩ := C
     dsimp only at hCe
     subst hCe
     unfold rpV
     dsimp only
     obtain ⟨fb, hfb⟩ : ∃ b, w8.heap.size = b := ⟨_, rfl⟩
     obtain ⟨Z, hZ⟩ : ∃ X, w8.alloc (.cells #[.int .i64 0, .int .i64 rs, .int .i64 gn, .int .i64 ad, .int .i64 sa, .int .i64 ot, .int .i64 cy, .int .i64 fu] 66) = X := ⟨_, rfl⟩
     have hbZ : Below w8.heap.size w8 Z := by rw [← hZ]; exact (Below.refl _ _).alloc (Nat.le_refl _) _
     have hrZ : RowR Z fb ⟨0, rs, gn, ad, sa, ot, cy, fu⟩ := by rw [← hZ, ← hfb]; exact RowR.new w8 ⟨0, rs, gn, ad, sa, ot, cy, fu⟩
     have HON : Hid (OncW w Z gm cb fb P8 M8 ss (sq + 1) ⟨0, rs, gn, ad, sa, ot, cy, fu⟩ (.slice p7 n7 c7) (Cm.bytes ⟨2, ss, sq + 1, 0, sp, []⟩)) := hide (by
      have hz : ∀ k, k < v2.heap.size → ¬ McS P5 k → ¬ McS P8 k := fun k hk hn e => by
       rcases HTS.out.new k e with e | e
       ·exact hn e
       ·omega
      have hs7 := HTS.out.chg.size
      refine ⟨bthen (Chg.to_below HB7.out HTS.out.chg HN5.out) hbZ, HTS.out.am.below hbZ, fun k hk => ?_, (hbZ.cell (lt_of_cell (HTS.out.chg.cell HC7.out HNX.out))).trans (HTS.out.chg.cell HC7.out HNX.out), hz cb (lt_of_cell HC7.out) HNX.out, hrZ, fun e => by have := HTS.out.am.is.lt fb e; omega, (HBY.out.by_.chgO HTS.out.chg ?_).below hbZ, ?_, HDN.out⟩
      ·rcases HTS.out.new k hk with e | e
       ·exact HN5.out k e
       ·have := HB7.out.size; omega
      ·rcases HBY.out with ⟨e1, e2⟩ | ⟨g, cap, e1, hg, _⟩
       ·exact .inl e2
       ·refine .inr fun k hk => ?_
        rw [e1] at hk
        have : g = k := by simpa [Value.ownBlock] using hk
        subst this
        intro e
        have := HZY.out.2 g e
        omega
      ·rcases HBY.out with ⟨e1, e2⟩ | ⟨g, cap, e1, hg, _⟩
       ·exact .inl e2
       ·rcases HBY.out.by_.ltM with q | q
        ·exact .inl q
        ·refine .inr fun k hk => hz k (q k hk) fun e => ?_
         rw [e1] at hk
         have : g = k := by simpa [Value.ownBlock] using hk
         subst this
         have := HZY.out.2 g e
         omega)
     obtain ⟨f0, f1, f2, f3, f4, f5, f6, f7⟩ := hrZ.z
     dsimp only at f0
     clear HTS HZY HC7 HM7 HBY HDN hbZ hrZ HNX HCX HMX HB7 HB5 HM5 HM6 HST6 HB6 HB4 HBX HN5 HN4
     go_wp2_with fail
     clear f0 f1 f2 f3 f4 f5 f6 f7 hZ hfb
     go_loopw [99] (fun i wr => ∃ j : Nat, j ≤ n2 ∧ i = .int .i64 j ∧ Hid (∃ P m, OncW w wr gm cb fb P m ss (sq + 1) ⟨0, rs, gn, ad, sa, ot, cy, fu⟩ (.slice p7 n7 c7) (Cm.bytes ⟨2, ss, sq + 1, 0, sp, []⟩) ∧ m.ix ≤ 81 + 2 * (j : Int))) (fun i _ => n2 - (intOf i).toNat)
     case atStart => exact ⟨0, by omega, rfl, hide ⟨_, _, HON.out, by have := HIX8.out; omega⟩⟩
     case round =>
      obtain ⟨j, hj, rfl, HR⟩ := hrel
      by_cases hlt : j < n2
      ·obtain ⟨P, m, hon, hix⟩ := HR.out
       have HO := hide hon
       have HI := hide hix
       obtain ⟨d, hd⟩ : ∃ y, D2[j]? = some y := ⟨_, List.getElem?_eq_getElem (by have := HN.out.1; omega)⟩
       have hdm := List.mem_of_getElem? hd
       have HNM : Hid (SmS d.sp ∧ d.by_.length ≤ 1048576) := hide ⟨(HQ2.out trivial).2 d hdm, HBK.out.2 d hdm⟩
       obtain ⟨g, o, hgo, HDI⟩ : ∃ g o, p2 = some ⟨g, o, none⟩ ∧ Hid (∀ U, Below w.heap.size w U → DmIn U d ∧ ∀ (i : Nat) x, (dmC d)[i]? = some x → U.cell? ⟨g, o + j * 11 + i, none⟩ = some x) := by
        obtain ⟨p', c', hpe, _, _, hms⟩ := HD2.out
        injection hpe with hpe1 hpe2 hpe3
        obtain ⟨g, o, e1, _, _⟩ := hms j d hd
        refine ⟨g, o, by rw [hpe1]; exact e1, hide fun U hU => ?_⟩
        obtain ⟨p'', c'', hpe', _, _, hms'⟩ := HD2.out.below hU
        injection hpe' with hpe1' hpe2' hpe3'
        obtain ⟨g', o', e1', h2, h3⟩ := hms' j d hd
        rw [← hpe1'] at e1'
        rw [← hpe1, e1'] at e1
        injection e1 with e1
        injection e1 with e5 e6
        subst e5 e6
        exact ⟨h2, h3⟩
       subst hgo
       obtain ⟨hin, hc⟩ := HDI.out wr hon.bel
       clear hd hdm HR hin
       obtain ⟨op, k, se, sq2, a, p1, n1, d1, q2, m2, d2, tm, ei, et, p3, n3, d3, sp2, vo2, by_⟩ := d
       have c0 := hc 0 _ rfl
       rw [Nat.add_zero] at c0
       have c1 := hc 1 _ rfl
       have c2 := hc 2 _ rfl
       have c3 := hc 3 _ rfl
       have c4 := hc 4 _ rfl
       have c5 := hc 5 _ rfl
       have c6 := hc 6 _ rfl
       have c7 := hc 7 _ rfl
       have c8 := hc 8 _ rfl
       have c9 := hc 9 _ rfl
       have c10 := hc 10 _ rfl
       clear hc
       have hbA := (Below.refl wr.heap.size wr).alloc (Nat.le_refl _) (.cells #[.int .i64 op, .int .i64 k, .int .i64 se, .int .i64 sq2, .int .i64 a, .slice p1 n1 d1, .slice q2 m2 d2, .int .i64 tm, .int .i64 ei, .int .i64 et, .slice p3 n3 d3] 57)
       have hrA := heap_alloc_new wr (.cells #[.int .i64 op, .int .i64 k, .int .i64 se, .int .i64 sq2, .int .i64 a, .slice p1 n1 d1, .slice q2 m2 d2, .int .i64 tm, .int .i64 ei, .int .i64 et, .slice p3 n3 d3] 57)
       obtain ⟨b, hbb⟩ : ∃ b, wr.heap.size = b := ⟨_, rfl⟩
       go_upto_region 20 with fail
       obtain ⟨W, hW⟩ : ∃ W, wr.alloc (.cells #[.int .i64 op, .int .i64 k, .int .i64 se, .int .i64 sq2, .int .i64 a, .slice p1 n1 d1, .slice q2 m2 d2, .int .i64 tm, .int .i64 ei, .int .i64 et, .slice p3 n3 d3] 57) = W := ⟨_, rfl⟩
       rw [hW] at hbA hrA ⊢
       rw [hbb] at hrA
       have HOW := hide (hon.below hbA)
       have HRB := hide hrA
       have HKR : Hid (∀ U : World, U.heap[b]? = some (.cells #[.int .i64 op, .int .i64 k, .int .i64 se, .int .i64 sq2, .int .i64 a, .slice p1 n1 d1, .slice q2 m2 d2, .int .i64 tm, .int .i64 ei, .int .i64 et, .slice p3 n3 d3] 57 (0, 0)) → U.cell? ⟨b, 0, none⟩ = some (.int .i64 op) ∧ U.cell? ⟨b, 1, none⟩ = some (.int .i64 k) ∧ U.cell? ⟨b, 2, none⟩ = some (.int .i64 se) ∧ U.cell? ⟨b, 3, none⟩ = some (.int .i64 sq2) ∧ U.cell? ⟨b, 4, none⟩ = some (.int .i64 a) ∧ U.cell? ⟨b, 5, none⟩ = some (.slice p1 n1 d1) ∧ U.cell? ⟨b, 6, none⟩ = some (.slice q2 m2 d2) ∧ U.cell? ⟨b, 7, none⟩ = some (.int .i64 tm) ∧ U.cell? ⟨b, 8, none⟩ = some (.int .i64 ei) ∧ U.cell? ⟨b, 9, none⟩ = some (.int .i64 et) ∧ U.cell? ⟨b, 10, none⟩ = some (.slice p3 n3 d3)) := hide fun U h1 => ⟨cell_of_row U b 0 _ 57 (0, 0) h1, cell_of_row U b 1 _ 57 (0, 0) h1, cell_of_row U b 2 _ 57 (0, 0) h1, cell_of_row U b 3 _ 57 (0, 0) h1, cell_of_row U b 4 _ 57 (0, 0) h1, cell_of_row U b 5 _ 57 (0, 0) h1, cell_of_row U b 6 _ 57 (0, 0) h1, cell_of_row U b 7 _ 57 (0, 0) h1, cell_of_row U b 8 _ 57 (0, 0) h1, cell_of_row U b 9 _ 57 (0, 0) h1, cell_of_row U b 10 _ 57 (0, 0) h1⟩
       obtain ⟨Q, hQ⟩ : ∃ q, dqK op = q := ⟨_, rfl⟩
       have hQ' : wrap64 ((IntKind.u64.wrap op).tmod 6) = Q := hQ
       obtain ⟨b0, b1, b2, b3, b4, b5, b6, b7, b8, b9, b10⟩ := HKR.out W hrA
       have cs1 := HOW.out.c1
       have HQQ := hide hQ
       clear hbA hrA hW hbb hon hix c0 c1 c2 c3 c4 c5 c6 c7 c8 c9 c10 hQ
       have hsm : Hid (Q < 4 → dqK op < 4) := hide (fun h => by rw [HQQ.out]; exact h)
       by_cases hcc : (k ≠ 3 ∧ se ≠ ss) ∧ Q < 4
       focus
        obtain ⟨⟨hk3, hse⟩, hq4⟩ := hcc
        have e1 : (k != 3) = true := by simpa using hk3
        have e2 : (se != ss) = true := by simpa using hse
        have e3 : decide (Q < 4) = true := decide_eq_true hq4
        have HST := hide (HOW.out.dn.play1 (d := ⟨op, k, se, sq2, a, p1, n1, d1, q2, m2, d2, tm, ei, et, p3, n3, d3, sp2, vo2, by_⟩) hk3 hse (hsm.out hq4))
        have HPL := hide (play_lit (d := ⟨op, k, se, sq2, a, p1, n1, d1, q2, m2, d2, tm, ei, et, p3, n3, d3, sp2, vo2, by_⟩) HOW.out.is HOW.out.hi HOW.out.bel (fun U hU => (HDI.out U hU).1) HNM.out.1 HNM.out.2)
        unfold dmC at HPL
        dsimp only at HPL
        clear hk3 hse hq4
        go_wp2_with fail
        refine HPL.out.mono ?_
        rintro e W1 ⟨rfl, P1, hts⟩
        have HIX := hide (stepM_ix m ⟨op, k, se, sq2, a, p1, n1, d1, q2, m2, d2, tm, ei, et, p3, n3, d3, sp2, vo2, by_⟩)
        obtain ⟨m1, hm1⟩ : ∃ x, playM m [⟨op, k, se, sq2, a, p1, n1, d1, q2, m2, d2, tm, ei, et, p3, n3, d3, sp2, vo2, by_⟩] = x := ⟨_, rfl⟩
        rw [hm1] at hts HST
        have HO1 : Hid (OncW w W1 gm cb fb P1 m1 ss (sq + 1) ⟨0, rs, gn, ad, sa, ot, cy, fu⟩ (.slice p7 n7 c7) (Cm.bytes ⟨2, ss, sq + 1, 0, sp, []⟩)) := hide (HOW.out.step' hts HST.out)
        have HI1 : Hid (m1.ix ≤ 82 + 2 * (j : Int)) := hide (by have h1 := HIX.out; have h2 := HI.out; have h3 : stepM m ⟨op, k, se, sq2, a, p1, n1, d1, q2, m2, d2, tm, ei, et, p3, n3, d3, sp2, vo2, by_⟩ = m1 := hm1; rw [h3] at h1; omega)
        clear hts HPL HST HIX hm1 e1 e2 e3 hsm HOW HRB HKR b0 b1 b2 b3 b4 b5 b6 b7 b8 b9 b10 cs1 HQQ hQ'
       rotate_left 1
       have hcc' : (k = 3 ∨ (k ≠ 3 ∧ se = ss)) ∨ ((k ≠ 3 ∧ se ≠ ss) ∧ ¬ Q < 4) := by
        by_cases h1 : k = 3
        ·exact .inl (.inl h1)
        ·by_cases h2 : se = ss
         ·exact .inl (.inr ⟨h1, h2⟩)
         ·exact .inr ⟨⟨h1, h2⟩, fun h3 => hcc ⟨⟨h1, h2⟩, h3⟩⟩
       clear hcc
       rcases hcc' with (hk3 | ⟨hk3, hse⟩) | ⟨⟨hk3, hse⟩, hq4⟩
       focus
        have e1 : (k != 3) = false := by rw [hk3]; rfl
        clear hk3
        go_upto_region 22 with fail
       rotate_left 1
       focus
        have e1 : (k != 3) = true := by simpa using hk3
        have e2 : (se != ss) = false := by rw [hse]; simp
        clear hk3 hse
        go_upto_region 22 with fail
       rotate_left 1
       focus
        have e1 : (k != 3) = true := by simpa using hk3
        have e2 : (se != ss) = true := by simpa using hse
        have e3 : decide (Q < 4) = false := decide_eq_false hq4
        clear hk3 hse hq4
        go_upto_region 22 with fail
       rotate_left 1
       rotate_left 1
       iterate 3
        focus
         have HO1 := HOW
         have HI1 : Hid (m.ix ≤ 82 + 2 * (j : Int)) := hide (by have h2 := HI.out; omega)
         obtain ⟨W1, hW1⟩ : ∃ X, W = X := ⟨_, rfl⟩
         obtain ⟨P1, hP1⟩ : ∃ X, P = X := ⟨_, rfl⟩
         obtain ⟨m1, hm1⟩ : ∃ X, m = X := ⟨_, rfl⟩
         rw [hW1, hP1, hm1] at HO1
         rw [hm1] at HI1
         rw [hW1]
         clear hW1 hP1 hm1 hsm HOW HRB HKR b0 b1 b2 b3 b4 b5 b6 b7 b8 b9 b10 cs1 HQQ hQ'
         clear e1
         try clear e2
         try clear e3
        rotate_left 1
       all_goals
        as_aux_lemma =>
         go_wp2_with fail
         refine (mmclone_any HO1.out.is).mono ?_
         rintro e W2 ⟨g2, P4, rfl, hm4, hn4, hg4, hb4⟩
         have HO2 := hide (HO1.out.below hb4)
         have HC2 := hide hm4
         have HN2 : Hid ((∀ k, McS P4 k → W1.heap.size ≤ k) ∧ W1.heap.size ≤ g2 ∧ ∀ k, McS P1 k → k < W1.heap.size) := hide ⟨hn4, hg4, fun k hk => HO1.out.is.is.lt k hk⟩
         clear hm4 hn4 hg4 hb4
         have HB81 : Hid (m1.ix + 1 ≤ 1000) := hide (by have h1 := HI1.out; have h2 := (HQ2.out trivial).1; have h3 := HN.out.1; omega)
         have HAP := appM_again HO2.out.dn HOK.out (by have := HB81.out; omega) HO2.out.is.is.ok.i0 HO2.out.is.is.ok.t1
         have HF0 := hide (imgM_grows (m := m1) (i := m1.ix + 1) (t := max m1.tm 1) (by omega) (by omega))
         obtain ⟨m2, hm2⟩ : ∃ x, ({ m1 with ix := m1.ix + 1, tm := max m1.tm 1 } : Mp) = x := ⟨_, rfl⟩
         rw [hm2] at HAP HF0
         have HF : Hid (m2.L = m1.L ∧ m2.S = m1.S ∧ m2.ix = m1.ix + 1 ∧ DoneM m2 ss (sq + 1) ⟨0, rs, gn, ad, sa, ot, cy, fu⟩) := hide ⟨by rw [← hm2], by rw [← hm2], by rw [← hm2], by rw [← hm2]; exact HO2.out.dn.ixt⟩
         have hiw : IntKind.i64.wrap (m1.ix + 1) = m1.ix + 1 := IntWalk.i64_in _ (by have := HB81.out; have := HO2.out.is.is.ok.i0; omega)
         clear hm2
         go_wp2_with fail
         refine (mindex_any HO2.out.is).mono ?_
         rintro e u1 ⟨rfl, rfl⟩
         go_wp2_with fail
         refine (mterm_any HO2.out.is).mono ?_
         rintro e u2 ⟨rfl, rfl⟩
         go_wp2_with fail
         refine (mapply_ts HO2.out.is HO2.out.by_ (by have := Cm.bytes_len HOK.out; omega)).mono ?_
         intro e W3 hp3
         rw [HAP] at hp3
         obtain ⟨rfl, P5, hts⟩ := hp3
         have HO3 : Hid (OncW w W3 gm cb fb P5 m2 ss (sq + 1) ⟨0, rs, gn, ad, sa, ot, cy, fu⟩ (.slice p7 n7 c7) (Cm.bytes ⟨2, ss, sq + 1, 0, sp, []⟩)) := hide (HO2.out.step hts HF.out.2.2.2)
         have HC3 : Hid (MkIs W3 g2 P4 m1) := hide (HC2.out.chgS hts.chg (fun k hk e => by have h1 := HN2.out.1 k hk; have h2 := HN2.out.2.2 k e; omega) (fun e => HO2.out.is.is.nz 0 e rfl) (fun e => by have h1 := HN2.out.2.2 _ e; have h2 := HN2.out.2.1; omega))
         clear hts HAP hiw HO2 HC2 HN2
         unfold rpV
         dsimp only
         have hbA := (Below.refl W3.heap.size W3).alloc (Nat.le_refl _) (.cells #[.int .i64 0, .int .i64 rs, .int .i64 gn, .int .i64 ad, .int .i64 sa, .int .i64 ot, .int .i64 cy, .int .i64 fu] 66)
         have hrA := RowR.new W3 ⟨0, rs, gn, ad, sa, ot, cy, fu⟩
         obtain ⟨rb, hrb⟩ : ∃ b, W3.heap.size = b := ⟨_, rfl⟩
         go_upto_region 24 with fail
         obtain ⟨W4, hW4⟩ : ∃ W, W3.alloc (.cells #[.int .i64 0, .int .i64 rs, .int .i64 gn, .int .i64 ad, .int .i64 sa, .int .i64 ot, .int .i64 cy, .int .i64 fu] 66) = W := ⟨_, rfl⟩
         have hr4 : RowR W4 rb ⟨0, rs, gn, ad, sa, ot, cy, fu⟩ := by rw [← hW4, ← hrb]; exact hrA
         clear hrA
         rw [hW4] at hbA ⊢
         have HO4 := hide (HO3.out.below hbA)
         have HC4 := hide (HC3.out.below hbA)
         obtain ⟨x0, x1, x2, x3, x4, x5, x6, x7⟩ := hr4.z
         obtain ⟨z0, z1, z2, z3, z4, z5, z6, z7⟩ := HO4.out.f.z
         have heqR : ∀ U, (binOp .neq 66 (.agg #[.int .i64 0, .int .i64 rs, .int .i64 gn, .int .i64 ad, .int .i64 sa, .int .i64 ot, .int .i64 cy, .int .i64 fu]) (.agg #[.int .i64 0, .int .i64 rs, .int .i64 gn, .int .i64 ad, .int .i64 sa, .int .i64 ot, .int .i64 cy, .int .i64 fu])).run Tryz.prog U = .ok (.bool false) U := fun U => by
          have h1 := rp_neqB ⟨0, rs, gn, ad, sa, ot, cy, fu⟩ ⟨0, rs, gn, ad, sa, ot, cy, fu⟩ U
          rw [decide_eq_true rfl] at h1
          exact h1
         clear hbA hr4 hW4 hrb HO3 HC3
         go_wp2_with fail
         refine (mseats_is HC4.out).mono ?_
         rintro e V1 ⟨q1, r1, s1, rfl, g1, h1⟩
         have HG1 := hide g1
         have HO5 := hide (HO4.out.below h1)
         have HC5 := hide (HC4.out.below h1)
         clear g1 h1 x0 x1 x2 x3 x4 x5 x6 x7 z0 z1 z2 z3 z4 z5 z6 z7 heqR HO4 HC4
         go_wp2_with fail
         refine (mseats_is HO5.out.is).mono ?_
         rintro e V2 ⟨q2', r2, s2, rfl, g2', h2⟩
         rw [HF.out.1] at g2'
         have HE2 := hide (equalT_true (HG1.out.below h2) g2')
         have HO6 := hide (HO5.out.below h2)
         have HC6 := hide (HC5.out.below h2)
         clear g2' h2 HG1 HO5 HC5
         go_wp2_with fail
         refine HE2.out.mono ?_
         rintro e V3 ⟨rfl, h3⟩
         have HO7 := hide (HO6.out.below h3)
         have HC7 := hide (HC6.out.below h3)
         clear h3 HO6 HC6 HE2
         go_wp2_with fail
         refine (mtraces_is HC7.out).mono ?_
         rintro e V4 ⟨q4, r4, s4, rfl, g4, h4⟩
         have HG4 := hide g4
         have HO8 := hide (HO7.out.below h4)
         have HC8 := hide (HC7.out.below h4)
         clear g4 h4 HO7 HC7
         go_wp2_with fail
         refine (mtraces_is HO8.out.is).mono ?_
         rintro e V5 ⟨q5, r5, s5, rfl, g5, h5⟩
         have HE5 := hide (eqTrs_any (HG4.out.below h5) g5 (by rw [HF.out.2.1]))
         have HO9 := hide (HO8.out.below h5)
         have HC9 := hide (HC8.out.below h5)
         clear g5 h5 HG4 HO8 HC8
         go_wp2_with fail
         refine HE5.out.mono ?_
         rintro e V6 ⟨rfl, h6⟩
         have HOa := hide (HO9.out.below h6)
         have HCa := hide (HC9.out.below h6)
         clear h6 HE5 HO9 HC9
         go_wp2_with fail
         refine (mimage_is HCa.out).mono ?_
         rintro e V7 ⟨q7, r7, s7, rfl, g7, h7⟩
         have HL7 := hide (g7.by_.len.1)
         have HOb := hide (HOa.out.below h7)
         have HCb := hide (HCa.out.below h7)
         clear g7 h7 HOa HCa
         go_wp2_with fail
         refine (mimage_is HOb.out.is).mono ?_
         rintro e V8 ⟨q8, r8, s8, rfl, g8, h8⟩
         have HL8 := hide (g8.by_.len.1)
         have HOc := hide (HOb.out.below h8)
         have HCc := hide (HCb.out.below h8)
         have hle : r7 ≤ r8 := by have a1 := HL7.out; have a2 := HL8.out; have a3 := HF0.out; omega
         have hgt : decide (r8 < r7) = false := decide_eq_false (by omega)
         have hgi : decide ((r8 : Int) < (r7 : Int)) = false := decide_eq_false (by omega)
         clear g8 h8 HOb HCb HL7 HL8
         go_wp2_with fail
         refine (mtraces_is HOc.out.is).mono ?_
         rintro e V9 ⟨q9, r9, s9, rfl, g9, h9⟩
         obtain ⟨Bt, hrow⟩ := g9
         have HOd := hide (HOc.out.below h9)
         have HCd := hide (HCc.out.below h9)
         obtain ⟨p9', c9', he9, hl9, hm9, hcl9⟩ := ints_row hrow
         injection he9 with he91 he92 he93
         subst he91 he92 he93
         have HCL := hide hcl9
         have hmi : ((m2.S.length : Nat) : Int) ≤ 9223372036854775807 := by unfold maxLen at hm9; omega
         have HSL : Hid (m2.S.length = m1.S.length) := hide (by rw [HF.out.2.1])
         clear hrow h9 hl9 hm9 hcl9 HOc HCc hle hgt hgi
         obtain ⟨nt, hnt⟩ : ∃ k, m2.S.length = k := ⟨_, rfl⟩
         have HNT := hide hnt
         rw [hnt] at HCL HSL hmi ⊢
         clear hnt
         go_wp2_with fail
         go_loopw [177] (fun i wr => ∃ jj : Nat, jj ≤ nt ∧ i = .int .i64 jj ∧ Hid (Below V9.heap.size V9 wr)) (fun i _ => nt - (intOf i).toNat)
         case atStart => exact ⟨0, by omega, rfl, hide (Below.refl _ _)⟩
         case round =>
          obtain ⟨jj, hjj, rfl, HQ9⟩ := hrel
          by_cases hlt2 : jj < nt
          ·obtain ⟨y9, hy9⟩ : ∃ y, m2.S[jj]? = some y := ⟨_, List.getElem?_eq_getElem (by have := HNT.out; omega)⟩
           obtain ⟨gk, hgk, hgk', hc9⟩ := HCL.out (by omega)
           subst hgk
           have ck := (HQ9.out.cell (p := ⟨gk, jj, none⟩) hgk').trans (hc9 jj y9.1 (by simp [hy9]))
           have hso := HOd.out.is.is.so.ok
           rw [HOd.out.is.is.pl] at hso
           have hyo := hso.ok y9 (List.mem_of_getElem? hy9)
           have hwf : (Lit.int .i64 y9.1).wf = true := WalkArith.wf_i64 (by have h1 : 1 ≤ y9.1 := hyo.2.2.1; have h2 : y9.1 ≤ 1099511627776 := hyo.2.2.2; omega)
           have HLA := hide (fun V (hV : Below wr.heap.size wr V) => mlookup_is (HCd.out.below (bthen HQ9.out hV)) hwf)
           have HLB := hide (fun V (hV : Below wr.heap.size wr V) => mlookup_is (HOd.out.is.below (bthen HQ9.out hV)) hwf)
           obtain ⟨t, ht⟩ : ∃ t, y9.1 = t := ⟨_, rfl⟩
           rw [ht] at ck HLA HLB
           clear hy9 hc9 hso hyo hwf hgk' ht
           go_wp2_with fail
           refine (HLA.out _ (Below.refl _ _)).mono ?_
           rintro e U1 ⟨a1, b1, c1', rfl, g1, h1⟩
           have HG1 := hide g1
           have HU1 : Hid (Below wr.heap.size wr U1) := hide h1
           clear g1 h1
           go_wp2_with fail
           refine (HLB.out _ HU1.out).mono ?_
           rintro e U2 ⟨a2, b2, c2', rfl, g2', h2⟩
           rw [HF.out.2.1] at g2'
           have HE2 := hide (brsTrue_any (HG1.out.below h2) g2')
           have HU2 := hide (bthen HU1.out h2)
           clear g2' h2
           go_wp2_with fail
           refine HE2.out.mono ?_
           rintro e U3 ⟨rfl, h3⟩
           have HU3 := hide (bthen HQ9.out (bthen HU2.out h3))
           clear h3
           go_wp2_with fail
           go_roundw
           case rel => exact ⟨jj + 1, by omega, by go_num, hide HU3.out⟩
           case measure => simp [intOf]; omega
          ·have HOe := hide (HOd.out.below HQ9.out)
           go_wp2_with fail
           go_roundw
           case rel => exact ⟨j + 1, by omega, by go_num, hide ⟨_, _, HOe.out, by have h1 := HF.out.2.2.1; have h2 := HI1.out; omega⟩⟩
           case measure => simp [intOf]; omega
      ·obtain ⟨P, m, hon, hix⟩ := HR.out
       have HO := hide hon
       clear hon hix HR
       go_wp2_with fail
       refine (mawake_any (HE.out.below HO.out.bel)).mono ?_
       rintro e wz ⟨rfl, hbz⟩
       go_wp2_with fail
       go_ret
       exact ⟨rfl, bthen HO.out.bel hbz⟩
end Go.Proofs.YtionbmlicmibgaaGreatDoor
namespace Go.Proofs.YtionbmlicmibgaaGreatDoor.machineOnce
open Go.ChangeShapes Go.WideShapes Go.ChangeAt Go.RowKit
open Go.ChangeMaps (open_string shut_string)
set_option linter.unusedVariables false
theorem laidOut : laidOutB Tryz.prog = true := by kernel_rfl
set_option maxRecDepth 100000 in
theorem reads (os : Os) {H : Type} (enc : TypeId × Value → H) : ∃ places, DataW.whole enc Tryz.prog ((laidWorld os).forCall (fun _ _ => 0) ⟨#[], #[.slice none 0 0, .slice none 0 0, .slice none 0 0], []⟩).memory Tryz.f10.params.toList Rows.machineOnceSpec.vars false (#[.slice none 0 0, .slice none 0 0, .slice none 0 0] : Array Value).toList 8 = some ([.nil, .nil, .nil], [], places) :=
 ⟨[], by kernel_rfl⟩
set_option maxRecDepth 100000 in
theorem lifted (os : Os) (started : os.Started) (H : Type) (enc : TypeId × Value → H) (F : Stop.Interp) :
  ReturnsInHanded {} Tryz.checked os 10 .any ((Rows.OpenSpec.upto Rows.machineOnceSpec).preRow enc Tryz.prog Tryz.f10 Rows.machineOnceUptoRow.domain false Rows.machineOnceUptoRow.laid) (((Rows.OpenSpec.upto Rows.machineOnceSpec).at F).post enc Tryz.prog Tryz.f10 false true false false) := by
 obtain ⟨places, hx⟩ := reads os enc
 refine returnsInHanded_of_row (C := Tryz.checked) (s := Rows.OpenSpec.upto Rows.machineOnceSpec) Tryz.own started (by kernel_rfl) Tryz.func10
  (witness_row_at (enc := enc) (C := Tryz.checked) false (laidWorld os) #[.slice none 0 0, .slice none 0 0, .slice none 0 0] rfl (by kernel_rfl) (by kernel_rfl) (by kernel_rfl)
   (OpenSpec.preRow_of_cond 8 hx (by kernel_rfl) (fun k hk => by cases hk; kernel_rfl) (by kernel_rfl) (laidWorld_met os _))) ?_
 intro W base args ds gs before hval0 hW _ hcond hsz0 hL _ _
 have hk := hcond _ rfl
 have hErr := errT_of_laid hL
 have hval : ∀ (j : Nat) t v, Tryz.f10.params[j]? = some t → args[j]? = some v → Value.okWide Tryz.prog W .any base t v := hval0
 have hW' := hW
 obtain ⟨p, q, hA0, hV, rfl, hfz, hnd⟩ := hW
 have hA : DataW.TrodAll enc Tryz.prog W 0 (fun _ => true) true Tryz.f10.params.toList args.toList ds p := hA0
 rw [Tryz.params10] at hA hval
 obtain ⟨v0, vs0, d0, ds0, p0, q0, hargs, rfl, rfl, h0, r0⟩ := trodAll_cons hA
 obtain ⟨v1, vs1, d1, ds1, p1, q1, rfl, rfl, rfl, h1, r1⟩ := trodAll_cons r0
 obtain ⟨v2, vs2, d2, ds2, p2, q2, rfl, rfl, rfl, h2, r2⟩ := trodAll_cons r1
 obtain ⟨rfl, rfl, rfl⟩ := trodAll_nil r2
 obtain rfl : args = #[v0, v1, v2] := by cases args; simp_all
 obtain ⟨rfl, rfl⟩ := trodVars_none hV
 obtain ⟨a0, len0, cap0, rfl⟩ := okWide_slice Tryz.underlying45 (hval 0 45 v0 rfl rfl)
 have k0 := h0
 have lt0 : ∀ x ∈ p0, x.block < W.heap.size := by obtain ⟨m, hm⟩ := k0; exact DataW.trod_lt m _ _ _ hm
 obtain ⟨a1, len1, cap1, rfl⟩ := okWide_slice Tryz.underlying45 (hval 1 45 v1 rfl rfl)
 have k1 := h1
 have lt1 : ∀ x ∈ p1, x.block < W.heap.size := by obtain ⟨m, hm⟩ := k1; exact DataW.trod_lt m _ _ _ hm
 obtain ⟨a2, len2, cap2, rfl⟩ := okWide_slice Tryz.underlying22 (hval 2 22 v2 rfl rfl)
 have k2 := h2
 have lt2 : ∀ x ∈ p2, x.block < W.heap.size := by obtain ⟨m, hm⟩ := k2; exact DataW.trod_lt m _ _ _ hm
 obtain ⟨D0, hl0, hD0, hk0⟩ := dms_of_arg h0
 have hb0 : Rows.uptoBulk d0 ≤ 1048576 := by
  have h : Rows.uptoBulkAll _ ≤ 1048576 := of_decide_eq_true hk
  exact Nat.le_trans (bulk_part (by simp)) h
 obtain ⟨D1, hl1, hD1, hk1⟩ := dms_of_arg h1
 have hb1 : Rows.uptoBulk d1 ≤ 1048576 := by
  have h : Rows.uptoBulkAll _ ≤ 1048576 := of_decide_eq_true hk
  exact Nat.le_trans (bulk_part (by simp)) h
 obtain ⟨l2, hs2, hn2⟩ := sps_of_arg h2
 clear hA0 hval0
 refine (lawMOnce_any hErr hD0 (fun d hd => Nat.le_trans (hk0 d hd) hb0) hD1 (fun d hd => Nat.le_trans (hk1 d hd) hb1) hs2 hn2).mono fun e W' ⟨he, bel⟩ => ?_
 subst he
 exact ⟨_, rfl, _, _, _, [], _, [], hW', trodAll_mk1 (shut_bool Tryz.underlying4 _), (trodAll_cons_mk (Below.trod laidOut (by kernel_rfl) (of_decide_eq_true (by kernel_rfl)) k0 bel lt0) (trodAll_cons_mk (Below.trod laidOut (by kernel_rfl) (of_decide_eq_true (by kernel_rfl)) k1 bel lt1) (trodAll_cons_mk (Below.trod laidOut (by kernel_rfl) (of_decide_eq_true (by kernel_rfl)) k2 bel lt2) trodAll_mk0))), rfl, bel.frame _, fun h => by cases h⟩
set_option maxHeartbeats 16000000 in
theorem cl : joinedFacts Tryz.pinned.checked.prog 10 Tryz.f10 Rows.machineOnceSpec Rows.machineOnceUptoRow = true := by
 unfold joinedFacts
 simp only [Bool.and_eq_true]
 repeat' apply And.intro
 all_goals (as_aux_lemma => kernel_rfl)
theorem fnm : Tryz.pinned.checked.prog.funcNamed Rows.machineOnceUptoRow.func = some 10 := by kernel_rfl
theorem inst : Tryz.f10.isInstance Tryz.pinned.checked.prog Rows.machineOnceUptoRow.origin Rows.machineOnceUptoRow.targs := of_decide_eq_true (by kernel_rfl)
theorem wr : Tryz.f10.isWrapper Tryz.pinned.checked.prog Rows.machineOnceUptoRow.wrapper Rows.machineOnceUptoRow.mainSum := by unfold Func.isWrapper; first | (rw [if_pos (by decide +kernel)]; kernel_rfl) | (rw [if_neg (by decide +kernel)]; exact ⟨rfl, rfl⟩)
theorem over : Rows.MachineOnceUptoSaid :=
 OpenClaim.holds_of_cond 10 Tryz.f10 rfl rfl rfl rfl rfl rfl rfl ⟨rfl, rfl, rfl, rfl, rfl⟩ rfl rfl rfl rfl rfl fnm Tryz.func10 cl inst wr (fun os started H enc _ F => by rw [OpenClaim.pre_eq_preRow]; exact lifted os started H enc F)
theorem named : Tryz.prog.funcNamed "spandrel/spandrellaw09.MachineOnce" = some 10 := by kernel_rfl
theorem noStand : ∀ t ∈ [45, 45, 22], Tryz.prog.wantsStandIn t = false := by
 intro t ht
 simp only [List.mem_cons, List.not_mem_nil, or_false] at ht
 rcases ht with rfl | rfl | rfl <;> kernel_rfl
theorem proved : Rows.MachineOnceUptoCardSaid :=
 Claim7.holds_tied_plain_at .later [] [.handle] true (true, "73e4509f8480c2613f465c6520d6329ec038b933e0a1ed9711b57278fe54956a") true
  over (fun _ h => by cases h) (by kernel_rfl) (fun _ h => by cases h) machineOnceUpto_row_tie rfl ⟨rfl, rfl⟩ (by kernel_rfl) rfl
  (fun f fn hf hfn => by
   obtain rfl : f = 10 := Option.some.inj (named.symm.trans hf) |>.symm
   obtain rfl : fn = Tryz.f10 := (Option.some.inj (Tryz.func10.symm.trans hfn)).symm
   exact ⟨by kernel_rfl, fun j t ht => by
    rw [Tryz.params10] at ht
    exact noStand t (by
     have := Array.mem_of_getElem? ht
     simpa using this)⟩)
  (by kernel_rfl)
end Go.Proofs.YtionbmlicmibgaaGreatDoor.machineOnce
