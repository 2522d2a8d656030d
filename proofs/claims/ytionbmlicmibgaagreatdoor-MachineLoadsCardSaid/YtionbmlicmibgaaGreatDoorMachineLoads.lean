/- MachineLoads (P9.3): any bytes make, or refuse to make, the machine that the document says. Condition: errors.errorType holds what the program's text lays there (the card ties it). -/
import Derived.ChangeSame
import Derived.ChangeVars
import Derived.JoinedOf
import Derived.RowKit
import Derived.LaidLaws
import Derived.LaidHandle
import Derived.Stop.Joined
import Derived.Test.YtionbmlicmibgaaGreatDoorMcRLd
import Derived.Test.YtionbmlicmibgaaGreatDoorCards
import Derived.Test.YtionbmlicmibgaaGreatDoorTie
import Derived.SizedLaws
import Derived.SevenTiedAt
import Derived.ProofKit
import Derived.ShutString
import Derived.Below
set_option linter.unusedVariables false
set_option linter.unusedSimpArgs false
namespace Go.Proofs.YtionbmlicmibgaaGreatDoor
open Go.Proofs.Tryz
open Go.ChangeShapes Go.WideShapes Go.RowKit
theorem Tryz.own : ownKnob Tryz.prog.godebug = none := by kernel_rfl
theorem Tryz.et : Tryz.prog.globalNamed "errors.errorType" = some 0 := by kernel_rfl
theorem Tryz.rt : (Tryz.prog.cutTypes.find? (·.1 == "internal/reflectlite.rtype")).map (·.2) = some 242 := by kernel_rfl
theorem Tryz.oneRow : ((List.range 334).filter fun t => Tryz.prog.rowNamed t [101, 114, 114, 111, 114]) = [175] := by kernel_rfl
theorem Tryz.size : Tryz.prog.types.size = 334 := by kernel_rfl
def wW : List (String × DataW Unit) := [("errors.errorType", Rows.laid_errors_errorType)]
theorem yE {W : World} (h : laidMetH prog wW W) : ko W := by
 have h' : laidMet prog [] W ∧ handlesMet prog wW W := h;obtain ⟨name, u, ty, e1, e2, e3, e4, e5⟩ := h'.2 _ (aeo.2 rfl);have en : name = [101, 114, 114, 111, 114] := (ac3 e1).symm;subst en;obtain rfl := ac3 (Tryz.rt.symm.trans e2);have hm : ty ∈ (List.range 334).filter fun t => Tryz.prog.rowNamed t [101, 114, 114, 111, 114] := adT.2 ⟨List.mem_range.2 (by rw [← Tryz.size]; exact e3), e4⟩;rw [Tryz.oneRow] at hm;obtain rfl := aeo.1 hm;have hh : typeHandle prog 175 = .pointer (some ⟨2, 175, none⟩) := by kernel_rfl
 rw [hh] at e5;have h9 := World.var?_cell Tryz.et e5 0;unfold ko
 simpa using h9
noncomputable def wX (os : Os) : World :=
 let w0 := World.holding prog os ⟨#[], #[], []⟩
 { w0 with heap := w0.heap.modify 0 fun
   | .cells _ t frozen => .cells #[.iface 242 (.agg #[.pointer (some ⟨2, 175, none⟩)])] t frozen
   | o => o }
theorem vK (os : Os) (args : Array Value) : laidMetH prog wW ((wX os).forCall (fun _ _ => 0) ⟨#[], args, []⟩).memory :=
 laidMetH_of_parts (laidMet_nil _ _) (by kernel_rfl)
open Go.RowKit
set_option maxRecDepth 200000 in
set_option maxHeartbeats 16000000 in
theorem vN {w : World} (hE : ko w) {p : Option Addr} {n c : Nat} {l : List UInt8} (hb : By w (.slice p n c) l) : Calls prog 7 #[.slice p n c] w fun e w' => e = .returned (.bool true) ∧ Below w.heap.size w w' := by
 have HE := af hE;have eI := af hb;have AF := af hb.len.1;have eW := hb.jZ;clear hE hb;go_enter func7, ntmps7
 by_cases hl : 32768 < (n : Int)
 ·have e2 : decide (32768 < (n : Int)) = true := ac4 hl;go_wp2_with fail
  refine (ob HE.out).mono ?_;rintro e wz ⟨rfl, vu⟩;go_wp2_with fail
  go_ret;exact ⟨rfl, vu⟩
 ·have e2 : decide (32768 < (n : Int)) = false := ac1 hl;have HLB : Hid (l.length ≤ 32768) := af (by have := AF.out; omega);go_wp2_with fail
  refine (El eI.out (by have := HLB.out; omega)).mono ?_;rintro e w1 ⟨p1, n1, c1, rfl, mW, aK⟩;have aS : Hid (Below w.heap.size w w1) := af aK;have QA := af mW.bp;clear mW aK;have HG := af (Hr (HE.out.below aS.out) QA.out (by have := HLB.out; omega));have HR := af (fun (U : World) (hU : Below w.heap.size w U) => Em (eI.out.below hU) (by have := HLB.out; omega));go_wp2_with fail
  refine HG.out.mono ?_;rintro e w2 ⟨SA, aP⟩;have cE : Hid (Below w.heap.size w w2) := af (da aS.out aP);have jO := af (QA.out.below aP);have Hs := af (HR.out _ cE.out);clear aP HG HR QA;rcases SA with ⟨L, gm, P, h1, rfl, hm, _, _⟩ | ⟨fI, rfl⟩
  ·have HM := af hm;have yZ : Hid (lL l L ∧ lS (FH l L) (Ht l L)) := af (KT hm.is.ok hm.KA hm.is.tb.ok h1.2.2.1 h1.2.2.2);clear h1 hm;go_wp2_with fail
   refine Hs.out.mono ?_;rintro e w3 ⟨dk, cF⟩;rcases dk with ⟨L', gx, Q, hd, rfl, hq⟩ | ⟨fI, rfl⟩;case inr => exact absurd yZ.out.1 (fI _)
   have hLL : L' = L := by
    have a := yZ.out.1.2.2.1;rw [hd.2.2.1] at a;injection a
   rw [hLL] at hq;have HT := af (A8 (HM.out.below cF) hq yZ.out.2);have fH := af (da cE.out cF);have sW := af (jO.out.below cF);clear hd hLL hq cF Hs yZ HM jO;go_wp2_with fail
   refine HT.out.mono ?_;rintro e w4 ⟨rfl, bY⟩;have dL := af (da fH.out bY);have Vd := af (og (sW.out.below bY) (eI.out.below dL.out));clear bY HT;go_wp2_with fail
   refine Vd.out.mono ?_;rintro e wA ⟨rfl, rfl⟩;go_wp2_with fail
   refine (ob (HE.out.below dL.out)).mono ?_;rintro e wz ⟨rfl, vu⟩;go_wp2_with fail
   go_ret;exact ⟨rfl, da dL.out vu⟩
  ·have lB := af fI;clear fI;go_wp2_with fail
   refine Hs.out.mono ?_;rintro e w3 ⟨dk, cF⟩;rcases dk with ⟨L', gx, Q, hd, rfl, hq⟩ | ⟨_, rfl⟩;case inl =>
    have ho := FT hd.2.2.2.1 hq.ix.1 hq.tm.1;have hc := KU ho hq.KA hq.tok hd.2.2.2.1 hd.2.2.2.2;exact absurd hc.2.2.2 (lB.out _ hc.1 hc.2.1 hc.2.2.1)
   have fH := af (da cE.out cF);have Vd := af (og (jO.out.below cF) (eI.out.below fH.out));clear cF Hs jO;go_wp2_with fail
   refine Vd.out.mono ?_;rintro e wA ⟨rfl, rfl⟩;go_wp2_with fail
   refine (ob (HE.out.below fH.out)).mono ?_;rintro e wz ⟨rfl, vu⟩;go_wp2_with fail
   go_ret;exact ⟨rfl, da fH.out vu⟩
end Go.Proofs.YtionbmlicmibgaaGreatDoor
namespace Go.Proofs.YtionbmlicmibgaaGreatDoor.machineLoads
open Go.Proofs.Tryz
open Go.ChangeShapes Go.WideShapes Go.ChangeAt Go.RowKit
open Go.ChangeMaps (open_string shut_string)
theorem laidOut : laidOutB prog = true := by kernel_rfl
set_option maxRecDepth 100000 in
theorem lifted (os : Os) (started : os.Started) (H : Type) (enc : TypeId × Value → H) :
  ReturnsInHanded {} Tryz.checked os 7 .any (fun w args => (Rows.machineLoadsSpec.pre enc prog Tryz.f7 [] false w args ∧ laidMetH prog wW w) ∧ sizedMet enc prog Tryz.f7 (OpenSpec.ofChange Rows.machineLoadsSpec) false w args)
   (Rows.machineLoadsSpec.post enc prog Tryz.f7 false true false false) := by
 refine returnsInHanded_of_change_and (C := Tryz.checked) (X := fun w _ => laidMetH prog wW w) (fun _ _ _ hh h => h.of_heap hh) Tryz.own started (by kernel_rfl) func7
  (ChangeSpec.witness_at (enc := enc) (C := Tryz.checked) (os := os) (X := fun w _ => laidMetH prog wW w) false (wX os) #[.slice none 0 0] 8 rfl (by kernel_rfl) (by kernel_rfl) (by kernel_rfl) (by kernel_rfl) (by kernel_rfl) (vK os _)) ?_
 intro W base args ds gs before Qi hW hcnd ab4 hL _;have aac := yE hL;have hval : ∀ (j : Nat) t v, Tryz.f7.params[j]? = some t → args[j]? = some v → Value.okWide prog W .any base t v := Qi;have hW' := hW;obtain ⟨p, q, hA0, hV, rfl, hfz, Zo⟩ := hW;have hA : DataW.TrodAll enc prog W 0 (fun _ => true) true Tryz.f7.params.toList args.toList ds p := hA0;rw [Tryz.params7] at hA hval;obtain ⟨v0, vs0, d0, ds0, p0, q0, abZ, rfl, rfl, h0, r0⟩ := trodAll_cons hA;obtain ⟨rfl, rfl, rfl⟩ := trodAll_nil r0;obtain rfl : args = #[v0] := by cases args; simp_all
 obtain ⟨rfl, rfl⟩ := trodVars_none hV;obtain ⟨a0, ab5, ab6, rfl⟩ := okWide_slice adu (hval 0 32 v0 rfl rfl);have k0 := h0;have lt0 : ∀ x ∈ p0, x.block < W.heap.size := by obtain ⟨m, hm⟩ := k0; exact DataW.trod_lt m _ _ _ hm
 obtain ⟨l0, _, fA⟩ := GK h0;clear hA0 Qi;refine (vN aac fA).mono fun e W' ⟨he, vP⟩ => ?_;subst he;exact ⟨_, rfl, _, _, _, [], _, [], hW', trodAll_mk1 (shut_bool underlying4 _), (trodAll_cons_mk (Below.trod laidOut (by kernel_rfl) (of_decide_eq_true (by kernel_rfl)) k0 vP lt0) trodAll_mk0), rfl, vP.frame _, fun h => by cases h⟩
set_option maxHeartbeats 16000000 in
theorem cl : joinedFacts Tryz.pinned.checked.prog 7 Tryz.f7 Rows.machineLoadsSpec Rows.machineLoadsRow = true := by
 unfold joinedFacts;simp only [adb]
 repeat' apply acD
 all_goals (as_aux_lemma => kernel_rfl)
theorem fnm : Tryz.pinned.checked.prog.funcNamed Rows.machineLoadsRow.func = some 7 := by kernel_rfl
theorem inst : Tryz.f7.isInstance Tryz.pinned.checked.prog Rows.machineLoadsRow.origin Rows.machineLoadsRow.targs := of_decide_eq_true (by kernel_rfl)
theorem wr : Tryz.f7.isWrapper Tryz.pinned.checked.prog Rows.machineLoadsRow.wrapper Rows.machineLoadsRow.mainSum := by unfold Func.isWrapper; first | (rw [acW (by decide +kernel)]; kernel_rfl) | (rw [acO (by decide +kernel)]; exact ⟨rfl, rfl⟩)
theorem lf (os : Os) (started : os.Started) (H : Type) (enc : TypeId × Value → H) : ReturnsInHanded Rows.machineLoadsRow.assume Tryz.pinned.checked os 7 .any (Rows.machineLoadsRow.pre enc Tryz.pinned.checked.prog Tryz.f7 (OpenSpec.ofChange Rows.machineLoadsSpec)) (Rows.machineLoadsSpec.post enc Tryz.pinned.checked.prog Tryz.f7 Rows.machineLoadsRow.apart Rows.machineLoadsRow.fresh Rows.machineLoadsRow.handsOn Rows.machineLoadsRow.again) := lifted os started H enc
theorem over : Rows.MachineLoadsSaid :=
 OpenClaim.holds_of_wide 7 Tryz.f7 rfl rfl rfl rfl rfl rfl rfl ⟨rfl, rfl, rfl, rfl, rfl⟩ rfl rfl rfl rfl rfl fnm func7 cl inst wr (fun os started H enc _ => lf os started H enc)
theorem named : Tryz.prog.funcNamed "spandrel/spandrellaw09.MachineLoads" = some 7 := by kernel_rfl
theorem NU : ∀ t ∈ [32], Tryz.prog.wantsStandIn t = false := by
 intro t ht;simp only [ac9, ad_, afd] at ht;rcases ht with rfl <;> kernel_rfl
theorem proved : Rows.MachineLoadsCardSaid :=
 Claim7.holds_tied_plain_at .later [] [.handle] true (true, "73e4509f8480c2613f465c6520d6329ec038b933e0a1ed9711b57278fe54956a") true
  over (fun _ h => by cases h) (by kernel_rfl) (fun _ h => by cases h) machineLoads_row_tie rfl ⟨rfl, rfl⟩ (by kernel_rfl) rfl
  (fun f fn hf Zp => by
   obtain rfl : f = 7 := ac3 (named.symm.trans hf) |>.symm;obtain rfl : fn = Tryz.f7 := (ac3 (Tryz.func7.symm.trans Zp)).symm;exact ⟨by kernel_rfl, fun j t ht => by
    rw [Tryz.params7] at ht;exact NU t (by
     have := Array.mem_of_getElem? ht
     simpa using this)⟩)
  (by kernel_rfl)
end Go.Proofs.YtionbmlicmibgaaGreatDoor.machineLoads
