/- Which command may be, and its bytes: the law MachinePuts returns true for every command. Condition: errors.errorType holds what the program's text lays there (the card ties it). -/
import Derived.Test.YtionbmlicmibgaaGreatDoorRows
import Derived.Test.YtionbmlicmibgaaGreatDoorCards
import Derived.Test.YtionbmlicmibgaaGreatDoorTie
import Derived.Test.YtionbmlicmibgaaGreatDoorMcArg
import Derived.Test.YtionbmlicmibgaaGreatDoorMcArgZ
import Derived.Test.YtionbmlicmibgaaGreatDoorMcHold
import Derived.Test.YtionbmlicmibgaaGreatDoorMcLPuts
import Derived.SevenTiedAt
import Derived.WalkKit
import Derived.ProofKit
import Derived.OpenShut
import Derived.ShutString
import Derived.ChangeOld
import Derived.Below
import Derived.SizedLaws
namespace Go.Proofs.YtionbmlicmibgaaGreatDoor.machinePuts
open Go.ChangeShapes Go.WideShapes Go.ChangeAt Go.RowKit
open Go.ChangeMaps (open_string shut_string)
set_option linter.unusedVariables false

theorem laidOut : laidOutB Tryz.prog = true := by kernel_rfl

set_option maxRecDepth 100000 in
theorem lifted (os : Os) (started : os.Started) (H : Type) (enc : TypeId × Value → H) :
  ReturnsInHanded {} Tryz.checked os 3 .any (fun w args => (Rows.machinePutsSpec.pre enc Tryz.prog Tryz.f3 [] false w args ∧ laidMetH Tryz.prog laidL w) ∧ sizedMet enc Tryz.prog Tryz.f3 (OpenSpec.ofChange Rows.machinePutsSpec) false w args)
   (Rows.machinePutsSpec.post enc Tryz.prog Tryz.f3 false true false false) := by
 refine returnsInHanded_of_change_and (C := Tryz.checked) (X := fun w _ => laidMetH Tryz.prog laidL w) (fun _ _ _ hh h => h.of_heap hh) Tryz.own started (by kernel_rfl) Tryz.func3
  (ChangeSpec.witness_at (enc := enc) (C := Tryz.checked) (os := os) (X := fun w _ => laidMetH Tryz.prog laidL w) false (laidWorld os) #[.agg #[.int .i64 0, .int .i64 0, .int .i64 0, .int .i64 0, .slice none 0 0, .slice none 0 0]] 8 rfl (by kernel_rfl) (by kernel_rfl) (by kernel_rfl) (by kernel_rfl) (by kernel_rfl) (laidWorld_met os _)) ?_
 intro W base args ds gs before hval0 hW hcnd hsz0 hL _
 have hErr := errT_of_laid hL
 have hval : ∀ (j : Nat) t v, Tryz.f3.params[j]? = some t → args[j]? = some v → Value.okWide Tryz.prog W .any base t v := hval0
 have hW' := hW
 obtain ⟨p, q, hA0, hV, rfl, hfz, hnd⟩ := hW
 have hA : DataW.TrodAll enc Tryz.prog W 0 (fun _ => true) true Tryz.f3.params.toList args.toList ds p := hA0
 rw [Tryz.params3] at hA hval
 obtain ⟨v0, vs0, d0, ds0, p0, q0, hargs, rfl, rfl, h0, r0⟩ := trodAll_cons hA
 obtain ⟨rfl, rfl, rfl⟩ := trodAll_nil r0
 obtain rfl : args = #[v0] := by cases args; simp_all
 obtain ⟨rfl, rfl⟩ := trodVars_none hV
 have k0 := h0
 have lt0 : ∀ x ∈ p0, x.block < W.heap.size := by obtain ⟨m, hm⟩ := k0; exact DataW.trod_lt m _ _ _ hm
 obtain ⟨ck0, cse0, csq0, ca0, p10, n10, d10, p20, n20, d20, sp0, vo0, hv0, hsp0, hnm0, hvo0, hf0⟩ := cm_of_arg (hval 0 25 v0 rfl rfl) h0
 obtain rfl := hv0
 have hz0 : n20 * 8 ≤ 140737488351232 := cm_size h0 (fun m hm => by
  have hsz : (DataW.weightsEach Tryz.prog (Tryz.f3.params.toList ++ Rows.machinePutsSpec.plain.varTypes Tryz.prog) _).all (· ≤ reachBytes) = true := hsz0
  rw [Tryz.params3] at hsz
  have := List.all_eq_true.1 hsz m (DataW.weights_mem_each (j := 0) (t := 25) (d := d0) rfl rfl m hm)
  simpa using this)
 clear hA0 hval0
 refine (lawMPuts_any hErr hsp0 hnm0 hvo0 hf0 hz0).mono fun e W' ⟨he, bel⟩ => ?_
 subst he
 exact ⟨_, rfl, _, _, _, [], _, [], hW', trodAll_mk1 (shut_bool Tryz.underlying4 _), (trodAll_cons_mk (Below.trod laidOut (by kernel_rfl) (of_decide_eq_true (by kernel_rfl)) k0 bel lt0) trodAll_mk0), rfl, bel.frame _, fun h => by cases h⟩

set_option maxHeartbeats 16000000 in
theorem cl : joinedFacts Tryz.pinned.checked.prog 3 Tryz.f3 Rows.machinePutsSpec Rows.machinePutsRow = true := by
 unfold joinedFacts
 simp only [Bool.and_eq_true]
 repeat' apply And.intro
 all_goals (as_aux_lemma => kernel_rfl)
theorem fnm : Tryz.pinned.checked.prog.funcNamed Rows.machinePutsRow.func = some 3 := by kernel_rfl
theorem inst : Tryz.f3.isInstance Tryz.pinned.checked.prog Rows.machinePutsRow.origin Rows.machinePutsRow.targs := of_decide_eq_true (by kernel_rfl)
theorem wr : Tryz.f3.isWrapper Tryz.pinned.checked.prog Rows.machinePutsRow.wrapper Rows.machinePutsRow.mainSum := by unfold Func.isWrapper; first | (rw [if_pos (by decide +kernel)]; kernel_rfl) | (rw [if_neg (by decide +kernel)]; exact ⟨rfl, rfl⟩)
theorem lf (os : Os) (started : os.Started) (H : Type) (enc : TypeId × Value → H) : ReturnsInHanded Rows.machinePutsRow.assume Tryz.pinned.checked os 3 .any (Rows.machinePutsRow.pre enc Tryz.pinned.checked.prog Tryz.f3 (OpenSpec.ofChange Rows.machinePutsSpec)) (Rows.machinePutsSpec.post enc Tryz.pinned.checked.prog Tryz.f3 Rows.machinePutsRow.apart Rows.machinePutsRow.fresh Rows.machinePutsRow.handsOn Rows.machinePutsRow.again) := lifted os started H enc
theorem over : Rows.MachinePutsSaid :=
 OpenClaim.holds_of_wide 3 Tryz.f3 rfl rfl rfl rfl rfl rfl rfl ⟨rfl, rfl, rfl, rfl, rfl⟩ rfl rfl rfl rfl rfl fnm Tryz.func3 cl inst wr (fun os started H enc _ => lf os started H enc)
theorem named : Tryz.prog.funcNamed "spandrel/spandrellaw09.MachinePuts" = some 3 := by kernel_rfl
theorem noStand : ∀ t ∈ [25], Tryz.prog.wantsStandIn t = false := by
 intro t ht
 simp only [List.mem_cons, List.not_mem_nil, or_false] at ht
 rcases ht with rfl <;> kernel_rfl

theorem proved : Rows.MachinePutsCardSaid :=
 Claim7.holds_tied_plain_at .later [] [.handle] true (true, "73e4509f8480c2613f465c6520d6329ec038b933e0a1ed9711b57278fe54956a") true
  over (fun _ h => by cases h) (by kernel_rfl) (fun _ h => by cases h) machinePuts_row_tie rfl ⟨rfl, rfl⟩ (by kernel_rfl) rfl
  (fun f fn hf hfn => by
   obtain rfl : f = 3 := Option.some.inj (named.symm.trans hf) |>.symm
   obtain rfl : fn = Tryz.f3 := (Option.some.inj (Tryz.func3.symm.trans hfn)).symm
   exact ⟨by kernel_rfl, fun j t ht => by
    rw [Tryz.params3] at ht
    exact noStand t (by
     have := Array.mem_of_getElem? ht
     simpa using this)⟩)
  (by kernel_rfl)
end Go.Proofs.YtionbmlicmibgaaGreatDoor.machinePuts
