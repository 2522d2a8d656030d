/- VaultWhole: for every list of calls and every call, wherever the power goes within the Save there is the state that was there, or the new one, whole. Condition: internal/strconv.uint64pow10 and math/bits's two tables hold what the program's text lays there (the card ties it). -/
import Derived.Test.YtgbdjcekpdfpjaaGreatDoorRows
import Derived.Test.YtgbdjcekpdfpjaaGreatDoorCards
import Derived.Test.YtgbdjcekpdfpjaaGreatDoorTie
import Derived.Test.YtgbdjcekpdfpjaaGreatDoorVh
import Derived.Test.YtgbdjcekpdfpjaaGreatDoorVk
import Derived.Test.YtgbdjcekpdfpjaaGreatDoorVArgD
import Derived.Test.YtgbdjcekpdfpjaaGreatDoorLawVWhole
import Derived.SevenTiedAt
import Derived.WalkKit
import Derived.ProofKit
import Derived.OpenShut
import Derived.ShutString
import Derived.ChangeOld
import Derived.Below
import Derived.SizedLaws
namespace Go.Proofs.YtgbdjcekpdfpjaaGreatDoor.vaultWhole
open Go.ChangeShapes Go.WideShapes Go.ChangeAt Go.RowKit
open Go.ChangeMaps (open_string shut_string)
set_option linter.unusedVariables false

theorem laidOut : laidOutB Tryz.prog = true := by kernel_rfl

set_option maxRecDepth 100000 in
theorem lifted (os : Os) (started : os.Started) (H : Type) (enc : TypeId × Value → H) :
    ReturnsInHanded {} Tryz.checked os 6 .any (fun w args => (Rows.vaultWholeSpec.pre enc Tryz.prog Tryz.f6 [] false w args ∧ laidMetH Tryz.prog laidL w) ∧ sizedMet enc Tryz.prog Tryz.f6 (OpenSpec.ofChange Rows.vaultWholeSpec) false w args)
      (Rows.vaultWholeSpec.post enc Tryz.prog Tryz.f6 false true false false) := by
  refine returnsInHanded_of_change_and (C := Tryz.checked) (X := fun w _ => laidMetH Tryz.prog laidL w) (fun _ _ _ hh h => h.of_heap hh) Tryz.own started (by kernel_rfl) Tryz.func6
    (ChangeSpec.witness_at (enc := enc) (C := Tryz.checked) (os := os) (X := fun w _ => laidMetH Tryz.prog laidL w) false (laidWorld os) #[.slice none 0 0, .agg #[.int .i64 0, .int .i64 0, .int .i64 0, .slice none 0 0, .slice none 0 0, .int .i64 0, .int .i64 0, .int .i64 0, .int .i64 0]] 8 rfl (by kernel_rfl) (by kernel_rfl) (by kernel_rfl) (by kernel_rfl) (by kernel_rfl) (laidWorld_met os _)) ?_
  intro W base args ds gs before hval0 hW hcnd hsz0 hL _
  have hTab := tab_of_laid hL
  have hval : ∀ (j : Nat) t v, Tryz.f6.params[j]? = some t → args[j]? = some v → Value.okWide Tryz.prog W .any base t v := hval0
  have hW' := hW
  obtain ⟨p, q, hA0, hV, rfl, hfz, hnd⟩ := hW
  have hA : DataW.TrodAll enc Tryz.prog W 0 (fun _ => true) true Tryz.f6.params.toList args.toList ds p := hA0
  have hsz : (DataW.weightsEach Tryz.prog (Tryz.f6.params.toList ++ Rows.vaultWholeSpec.plain.varTypes Tryz.prog) (ds ++ gs)).all (· ≤ reachBytes) = true := hsz0
  rw [Tryz.params6] at hA hval hsz
  obtain ⟨v0, vs0, d0, ds0, p0, q0, hargs, rfl, rfl, h0, r0⟩ := trodAll_cons hA
  obtain ⟨v1, vs1, d1, ds1, p1, q1, rfl, rfl, rfl, h1, r1⟩ := trodAll_cons r0
  obtain ⟨rfl, rfl, rfl⟩ := trodAll_nil r1
  obtain rfl : args = #[v0, v1] := by cases args; simp_all
  obtain ⟨rfl, rfl⟩ := trodVars_none hV
  obtain ⟨a0, len0, cap0, rfl⟩ := okWide_slice Tryz.underlying22 (hval 0 22 v0 rfl rfl)
  have k0 := h0
  have lt0 : ∀ x ∈ p0, x.block < W.heap.size := by obtain ⟨m, hm⟩ := k0; exact DataW.trod_lt m _ _ _ hm
  have k1 := h1
  have lt1 : ∀ x ∈ p1, x.block < W.heap.size := by obtain ⟨m, hm⟩ := k1; exact DataW.trod_lt m _ _ _ hm
  obtain ⟨D0, hl0, hD0⟩ := dos_of_arg h0
  have hS0 := dos_size hD0 h0 fun m hm => by have := List.all_eq_true.1 hsz m (DataW.weights_mem_each (j := 0) (by rfl) (by rfl) m hm); simpa using this
  have hN0 := dos_len hD0 h0 fun m hm => by have := List.all_eq_true.1 hsz m (DataW.weights_mem_each (j := 0) (by rfl) (by rfl) m hm); simpa using this
  obtain ⟨D1, hv1, hD1⟩ := do_of_arg (hval 1 44 v1 rfl rfl) h1
  obtain rfl := hv1
  have hS1 := do_size hD1.h1.len.1 h1 fun m hm => by have := List.all_eq_true.1 hsz m (DataW.weights_mem_each (j := 1) (by rfl) (by rfl) m hm); simpa using this
  clear hA0 hval0
  refine (lawVWhole_any hTab hD0 hS0 hN0 hD1 hS1).mono fun e W' ⟨he, bel⟩ => ?_
  subst he
  exact ⟨_, rfl, _, _, _, [], _, [], hW', trodAll_mk1 (shut_bool Tryz.underlying4 _), (trodAll_cons_mk (Below.trod laidOut (by kernel_rfl) (of_decide_eq_true (by kernel_rfl)) k0 bel lt0) (trodAll_cons_mk (Below.trod laidOut (by kernel_rfl) (of_decide_eq_true (by kernel_rfl)) k1 bel lt1) trodAll_mk0)), rfl, bel.frame _, fun h => by cases h⟩

set_option maxHeartbeats 16000000 in
theorem cl : joinedFacts Tryz.pinned.checked.prog 6 Tryz.f6 Rows.vaultWholeSpec Rows.vaultWholeRow = true := by
  unfold joinedFacts
  simp only [Bool.and_eq_true]
  repeat' apply And.intro
  all_goals (as_aux_lemma => kernel_rfl)
theorem fnm : Tryz.pinned.checked.prog.funcNamed Rows.vaultWholeRow.func = some 6 := by kernel_rfl
theorem inst : Tryz.f6.isInstance Tryz.pinned.checked.prog Rows.vaultWholeRow.origin Rows.vaultWholeRow.targs := of_decide_eq_true (by kernel_rfl)
theorem wr : Tryz.f6.isWrapper Tryz.pinned.checked.prog Rows.vaultWholeRow.wrapper Rows.vaultWholeRow.mainSum := by unfold Func.isWrapper; first | (rw [if_pos (by decide +kernel)]; kernel_rfl) | (rw [if_neg (by decide +kernel)]; exact ⟨rfl, rfl⟩)
theorem lf (os : Os) (started : os.Started) (H : Type) (enc : TypeId × Value → H) : ReturnsInHanded Rows.vaultWholeRow.assume Tryz.pinned.checked os 6 .any (Rows.vaultWholeRow.pre enc Tryz.pinned.checked.prog Tryz.f6 (OpenSpec.ofChange Rows.vaultWholeSpec)) (Rows.vaultWholeSpec.post enc Tryz.pinned.checked.prog Tryz.f6 Rows.vaultWholeRow.apart Rows.vaultWholeRow.fresh Rows.vaultWholeRow.handsOn Rows.vaultWholeRow.again) := lifted os started H enc
theorem over : Rows.VaultWholeSaid :=
  OpenClaim.holds_of_wide 6 Tryz.f6 rfl rfl rfl rfl rfl rfl rfl ⟨rfl, rfl, rfl, rfl, rfl⟩ rfl rfl rfl rfl rfl fnm Tryz.func6 cl inst wr (fun os started H enc _ => lf os started H enc)
theorem named : Tryz.prog.funcNamed "spandrel/spandrellaw06.VaultWhole" = some 6 := by kernel_rfl
theorem noStand : ∀ t ∈ [22, 44], Tryz.prog.wantsStandIn t = false := by
  intro t ht
  simp only [List.mem_cons, List.not_mem_nil, or_false] at ht
  rcases ht with rfl | rfl <;> kernel_rfl

theorem proved : Rows.VaultWholeCardSaid :=
  Claim7.holds_tied_plain_at .later [] [.data, .data, .data] true (true, "3d588177e71cf06732419030ff6fa89f6ee7db6d3ed97092ce72befaab701385") false
    over (fun _ h => by cases h) (by kernel_rfl) (fun _ h => by cases h) vaultWhole_row_tie rfl ⟨rfl, rfl⟩ (by kernel_rfl) rfl
    (fun f fn hf hfn => by
      obtain rfl : f = 6 := Option.some.inj (named.symm.trans hf) |>.symm
      obtain rfl : fn = Tryz.f6 := (Option.some.inj (Tryz.func6.symm.trans hfn)).symm
      exact ⟨by kernel_rfl, fun j t ht => by
        rw [Tryz.params6] at ht
        exact noStand t (by
          have := Array.mem_of_getElem? ht
          simpa using this)⟩)
    (by kernel_rfl)
end Go.Proofs.YtgbdjcekpdfpjaaGreatDoor.vaultWhole
