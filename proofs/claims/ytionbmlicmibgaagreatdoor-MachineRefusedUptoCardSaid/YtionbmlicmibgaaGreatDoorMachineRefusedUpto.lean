/- An entry that is not the next one, or of a term that cannot be, changes nothing; one whose bytes are no command is counted alone: the law MachineRefused returns true, for arguments of bulk at most 1048576. Condition: errors.errorType holds what the program's text lays there (the card ties it). -/
import Derived.Test.YtionbmlicmibgaaGreatDoorRows
import Derived.Test.YtionbmlicmibgaaGreatDoorMcErr
import Derived.ChangeSame
import Derived.ChangeVars
import Derived.JoinedOf
import Derived.RowKit
import Derived.RowKitTokens
import Derived.LaidLaws
import Derived.LaidHandle
import Derived.Stop.Joined
import Derived.Test.YtionbmlicmibgaaGreatDoorMcKit
import Derived.Test.YtionbmlicmibgaaGreatDoorCards
import Derived.Test.YtionbmlicmibgaaGreatDoorTie
import Derived.Test.YtionbmlicmibgaaGreatDoorMcArg
import Derived.SevenTiedAt
import Derived.Deep.DeepHandedRow
import Derived.WalkKit
import Derived.ProofKit
import Derived.OpenShut
import Derived.ShutString
import Derived.ChangeOld
import Derived.Below
import Derived.SizedLaws
namespace Go.Proofs.YtionbmlicmibgaaGreatDoor
set_option linter.unusedVariables false
set_option linter.unusedSimpArgs false
open Go.ChangeShapes Go.WideShapes Go.RowKit

theorem Tryz.own : ownKnob Tryz.prog.godebug = none := by kernel_rfl
theorem Tryz.et : Tryz.prog.globalNamed "errors.errorType" = some 0 := by kernel_rfl
theorem Tryz.rt : (Tryz.prog.cutTypes.find? (·.1 == "internal/reflectlite.rtype")).map (·.2) = some 242 := by kernel_rfl
theorem Tryz.oneRow : ((List.range 334).filter fun t => Tryz.prog.rowNamed t [101, 114, 114, 111, 114]) = [175] := by kernel_rfl
theorem Tryz.size : Tryz.prog.types.size = 334 := by kernel_rfl
/-- What is laid. -/
def laidL : List (String × DataW Unit) := [("errors.errorType", Rows.laid_errors_errorType)]
theorem errT_of_laid {W : World} (h : laidMetH Tryz.prog laidL W) : ErrT W := by
 have h' : laidMet Tryz.prog [] W ∧ handlesMet Tryz.prog laidL W := h
 obtain ⟨name, u, ty, e1, e2, e3, e4, e5⟩ := h'.2 _ (List.mem_singleton.2 rfl)
 have en : name = [101, 114, 114, 111, 114] := (Option.some.inj e1).symm
 subst en
 obtain rfl := Option.some.inj (Tryz.rt.symm.trans e2)
 have hm : ty ∈ (List.range 334).filter fun t => Tryz.prog.rowNamed t [101, 114, 114, 111, 114] := List.mem_filter.2 ⟨List.mem_range.2 (by rw [← Tryz.size]; exact e3), e4⟩
 rw [Tryz.oneRow] at hm
 obtain rfl := List.mem_singleton.1 hm
 have hh : typeHandle Tryz.prog 175 = .pointer (some ⟨2, 175, none⟩) := by kernel_rfl
 rw [hh] at e5
 have h9 := World.var?_cell Tryz.et e5 0
 unfold ErrT
 simpa using h9
/-- A world that meets the condition. -/
noncomputable def laidWorld (os : Os) : World :=
 let w0 := World.holding Tryz.prog os ⟨#[], #[], []⟩
 { w0 with heap := w0.heap.modify 0 fun
   | .cells _ t frozen => .cells #[.iface 242 (.agg #[.pointer (some ⟨2, 175, none⟩)])] t frozen
   | o => o }
theorem laidWorld_met (os : Os) (args : Array Value) : laidMetH Tryz.prog laidL ((laidWorld os).forCall (fun _ _ => 0) ⟨#[], args, []⟩).memory :=
 laidMetH_of_parts (laidMet_nil _ _) (by kernel_rfl)
end Go.Proofs.YtionbmlicmibgaaGreatDoor
namespace Go.Proofs.YtionbmlicmibgaaGreatDoor
set_option linter.unusedVariables false
set_option linter.unusedSimpArgs false
open Go.RowKit

/-- What the law asks of an entry that is refused. -/
def nextB (m : Mp) (i t : Int) : Bool := i == m.ix + 1 && (decide (max m.tm 1 ≤ t) && decide (t ≤ 1099511627776))
theorem nextB_no {m : Mp} {i t : Int} (h : m.nxt i t = false) (hx : m.ix < 1099511627776) : nextB m i t = false := by
 unfold Mp.nxt btw at h
 unfold nextB
 cases h1 : (i == m.ix + 1) with
 | false => rfl
 | true =>
  have e : i = m.ix + 1 := by simpa using h1
  rw [h1] at h
  simp at h
  simp
  intro h2
  have := h (by omega) (by omega)
  omega
theorem equalT_any {W : World} {v u : Value} {l : List UInt8} (h1 : By W v l) (h2 : By W u l) : Calls Tryz.prog 20 #[v, u] W fun e w' => e = .returned (.bool true) ∧ W = w' := by
 have h := equal_any h1 h2
 rw [beq_self_eq_true] at h; exact h
/-- Behind begun and play: a machine, a clone of it. -/
structure RfA (B : Nat) (w : World) (gm g2 : Nat) (P P2 : Pm) (m : Mp) : Prop where
 a : MkIs w gm P m
 c : MkIs w g2 P2 m
 ap : ∀ k, McS P k → B ≤ k
 dis : ∀ k, McS P k → ¬ McS P2 k
 g2n : ¬ McS P g2
set_option maxRecDepth 200000 in
set_option maxHeartbeats 16000000 in
theorem lawMRef_any {w : World} (hE : ErrT w) {p : Option Addr} {n c : Nat} {D : List Dm} (hD : Dms w (.slice p n c) D) (hbk : ∀ d ∈ D, d.by_.length ≤ 1048576) {pe : Option Addr} {ne ce : Nat} {ei et : Int} {l : List UInt8} (hl : By w (.slice pe ne ce) l) (hfi : fits ei) (hft : fits et) : Calls Tryz.prog 12 #[.slice p n c, .agg #[.int .i64 ei, .int .i64 et, .slice pe ne ce]] w fun e w' => e = .returned (.bool true) ∧ Below w.heap.size w w' := by
 have HE := hide hE
 have HD := hide hD
 have HL := hide hl
 have HNE := hide hl.len.1
 have hne9 := hl.lenMax
 have HBK := hide hbk
 have hbx := (Below.refl w.heap.size w).alloc (Nat.le_refl _) (.cells #[.int .i64 ei, .int .i64 et, .slice pe ne ce] 55)
 have hrx := heap_alloc_new w (.cells #[.int .i64 ei, .int .i64 et, .slice pe ne ce] 55)
 obtain ⟨X, hX⟩ : ∃ X, w.alloc (.cells #[.int .i64 ei, .int .i64 et, .slice pe ne ce] 55) = X := ⟨_, rfl⟩
 obtain ⟨b, hbq⟩ : ∃ b, w.heap.size = b := ⟨_, rfl⟩
 rw [hX] at hbx hrx
 have HB0 : Hid (Below w.heap.size w X) := hide hbx
 rw [hbq] at hrx
 have HRX : Hid (RowE X b ei et (.slice pe ne ce)) := hide hrx
 obtain ⟨x0, x1, x2⟩ := HRX.out.z
 have HSH := hide (mshort_any (hD.below hbx))
 clear hE hD hl hbk hbx hrx
 go_enter Tryz.func12, Tryz.ntmps12
 go_wp2_with fail
 clear hX hbq
 refine HSH.out.mono ?_
 rintro e w1 ⟨⟨q, rfl, hq⟩, hb1⟩
 have HB1 : Hid (Below w.heap.size w w1) := hide (HB0.out.trans (hb1.mono HB0.out.size))
 have HR1 := hide (HRX.out.below hb1)
 have HQ := hide hq
 clear hb1 hq HSH x0 x1 x2
 obtain ⟨x0, x1, x2⟩ := HR1.out.z
 cases q
 ·go_wp2_with fail
  refine (mawake_any (HE.out.below HB1.out)).mono ?_
  rintro e wz ⟨rfl, hbz⟩
  go_wp2_with fail
  go_ret
  exact ⟨rfl, HB1.out.trans (hbz.mono HB1.out.size)⟩
 ·by_cases hln : 32768 < (ne : Int)
  ·have e1 : decide (32768 < (ne : Int)) = true := decide_eq_true hln
   go_wp2_with fail
   refine (mawake_any (HE.out.below HB1.out)).mono ?_
   rintro e wz ⟨rfl, hbz⟩
   go_wp2_with fail
   go_ret
   exact ⟨rfl, HB1.out.trans (hbz.mono HB1.out.size)⟩
  ·have e1 : decide (32768 < (ne : Int)) = false := decide_eq_false hln
   have HLN : Hid (l.length ≤ 32768) := hide (by have := HNE.out; omega)
   go_wp2_with fail
   refine (mbegun_any (HE.out.below HB1.out)).mono ?_
   rintro e w2 ⟨gm, P0, rfl, hm2, hn2, hg2, hb2⟩
   have HB2 : Hid (Below w.heap.size w w2) := hide (HB1.out.trans (hb2.mono HB1.out.size))
   have HR2 := hide (HR1.out.below hb2)
   have HM2 := hide hm2
   have HN2 : Hid (∀ k, McS P0 k → w1.heap.size ≤ k) := hide hn2
   have HBL : Hid (b < w1.heap.size ∧ w.heap.size ≤ w1.heap.size ∧ w1.heap.size ≤ gm) := hide ⟨HR1.out.lt, HB1.out.size, hg2⟩
   clear hm2 hn2 hg2 hb2 x0 x1 x2
   have HDP : Hid (∀ W, Chg w2 W (McS P0) → Dms W (.slice p n c) D) := hide fun W hW => HD.out.below (Chg.to_below HB2.out hW (fun k e => by have := HN2.out k e; have := HBL.out; omega))
   go_wp2_with fail
   refine (mplay_any HM2.out HDP.out (HQ.out trivial).2 HBK.out).mono ?_
   rintro e w3 ⟨rfl, P3, hts⟩
   obtain ⟨M3, hM3⟩ : ∃ m3, playM ⟨0, 0, [0, 1, 2], [], []⟩ D = m3 := ⟨_, rfl⟩
   have HIX : Hid (M3.ix ≤ 80) := hide (by have h1 := playM_ix D ⟨0, 0, [0, 1, 2], [], []⟩; have h2 := (HQ.out trivial).1; rw [hM3] at h1; dsimp only at h1; omega)
   rw [hM3] at hts
   have HB3 : Hid (Below w.heap.size w w3) := hide (Chg.to_below HB2.out hts.chg (fun k e => by have := HN2.out k e; have := HBL.out; omega))
   have HR3 : Hid (RowE w3 b ei et (.slice pe ne ce)) := hide ((hts.chg.block b HR2.out.lt (fun e => by have := HN2.out b e; have := HBL.out; omega)).trans HR2.out)
   have HM3 := hide hts.am
   have HN3 : Hid (∀ k, McS P3 k → w1.heap.size ≤ k) := hide (fun k hk => by
    rcases hts.new k hk with e | e
    ·exact HN2.out k e
    ·have := HM2.out.lt; have := HBL.out; omega)
   clear hts hM3 HDP
   go_wp2_with fail
   refine (mmclone_any HM3.out).mono ?_
   rintro e w4 ⟨g2, P4, rfl, hm4, hn4, hg4, hb4⟩
   have HB4 : Hid (Below w.heap.size w w4) := hide (HB3.out.trans (hb4.mono HB3.out.size))
   have HR4 := hide (HR3.out.below hb4)
   have HM4 := hide (HM3.out.below hb4)
   have HC4 := hide hm4
   have HN4 : Hid ((∀ k, McS P4 k → w3.heap.size ≤ k) ∧ w3.heap.size ≤ g2 ∧ ∀ k, McS P3 k → k < w3.heap.size) := hide ⟨hn4, hg4, fun k hk => HM3.out.is.lt k hk⟩
   clear hm4 hn4 hg4 hb4
   obtain ⟨x0, x1, x2⟩ := HR4.out.z
   go_wp2_with fail
   refine (mapply_any HM4.out (HL.out.below HB4.out) (by have := HLN.out; omega)).mono ?_
   intro e w5 hp5
   cases hnx : M3.nxt ei et
   ·have ha : appM M3 ei et l = (rp0, 51, M3) := by unfold appM; rw [hnx]; rfl
    rw [ha] at hp5
    obtain ⟨rfl, P5, hto, hmk⟩ := hp5
    have HM5 := hide hmk
    have HC5 : Hid (MkIs w5 g2 P4 M3) := hide (HC4.out.chgS hto.chg (fun k hk e => by have h1 := HN4.out.1 k hk; have h2 := HN4.out.2.2 k e.sub; omega) (fun e => HM4.out.is.nz 0 e.sub rfl) (fun e => by have h1 := HN4.out.2.2 _ e.sub; have h2 := HN4.out.2.1; omega))
    have HB5 : Hid (Below w.heap.size w w5) := hide (Chg.to_below HB4.out hto.chg (fun k e => by have := HN3.out k e.sub; have := HBL.out; omega))
    have HR5 : Hid (RowE w5 b ei et (.slice pe ne ce)) := hide ((hto.chg.block b HR4.out.lt (fun e => by have := HN3.out b e.sub; have := HBL.out; omega)).trans HR4.out)
    clear hto hmk ha x0 x1 x2
    unfold rpV rp0
    dsimp only
    go_upto_region 10 with fail
    obtain ⟨W, hW⟩ : ∃ X, w5.alloc (.cells #[.int .i64 0, .int .i64 0, .int .i64 0, .int .i64 0, .int .i64 0, .int .i64 0, .int .i64 0, .int .i64 0] 66) = X := ⟨_, rfl⟩
    have hbW : Below w5.heap.size w5 W := by rw [← hW]; exact (Below.refl _ _).alloc (Nat.le_refl _) _
    have hrW : RowR W w5.heap.size rp0 := by rw [← hW]; exact RowR.new w5 rp0
    rw [hW]
    have HBW : Hid (Below w.heap.size w W) := hide (HB5.out.trans (hbW.mono HB5.out.size))
    have HMW := hide (HM5.out.below hbW)
    have HCW := hide (HC5.out.below hbW)
    have HRW := hide hrW
    obtain ⟨rb, hrb⟩ : ∃ b, w5.heap.size = b := ⟨_, rfl⟩
    rw [hrb] at HRW ⊢
    have HI1 : Hid (∀ U, Below W.heap.size W U → Calls Tryz.prog 40 #[.pointer (some ⟨g2, 0, none⟩)] U fun e w' => e = .returned (.int .i64 M3.ix) ∧ w' = U) := hide fun U hU => mindex_any (HCW.out.below hU)
    have HI2 : Hid (∀ U, Below W.heap.size W U → Calls Tryz.prog 41 #[.pointer (some ⟨g2, 0, none⟩)] U fun e w' => e = .returned (.int .i64 M3.tm) ∧ w' = U) := hide fun U hU => mterm_any (HCW.out.below hU)
    have HRE := hide (HR5.out.below hbW)
    have HKP : Hid (∀ U, Below W.heap.size W U → U.cell? ⟨b, 0, none⟩ = some (.int .i64 ei) ∧ U.cell? ⟨b, 1, none⟩ = some (.int .i64 et)) := hide fun U hU => ⟨(HRE.out.below hU).z.1, (HRE.out.below hU).z.2.1⟩
    have HKZ : Hid (∀ U, Below W.heap.size W U → U.cell? ⟨rb, 0, none⟩ = some (.int .i64 0) ∧ U.cell? ⟨rb, 1, none⟩ = some (.int .i64 0) ∧ U.cell? ⟨rb, 2, none⟩ = some (.int .i64 0) ∧ U.cell? ⟨rb, 3, none⟩ = some (.int .i64 0) ∧ U.cell? ⟨rb, 4, none⟩ = some (.int .i64 0) ∧ U.cell? ⟨rb, 5, none⟩ = some (.int .i64 0) ∧ U.cell? ⟨rb, 6, none⟩ = some (.int .i64 0) ∧ U.cell? ⟨rb, 7, none⟩ = some (.int .i64 0)) := hide fun U hU => (HRW.out.below hU).z
    have HIA := hide (fun U (hU : Below W.heap.size W U) => mimage_is (HMW.out.below hU))
    have HIB := hide (fun U (hU : Below W.heap.size W U) => mimage_is (HCW.out.below hU))
    have HAW := hide (fun U (hU : Below W.heap.size W U) => mawake_any (HE.out.below (HBW.out.trans (hU.mono HBW.out.size))))
    have heqZ : ∀ U, (binOp .eql 66 (.agg #[.int .i64 0, .int .i64 0, .int .i64 0, .int .i64 0, .int .i64 0, .int .i64 0, .int .i64 0, .int .i64 0]) (.agg #[.int .i64 0, .int .i64 0, .int .i64 0, .int .i64 0, .int .i64 0, .int .i64 0, .int .i64 0, .int .i64 0])).run Tryz.prog U = .ok (.bool true) U := fun U => by
     have h1 := rp_eql rp0 rp0 U
     rw [decide_eq_true rfl] at h1
     exact h1
    have hno := nextB_no hnx (by have := HIX.out; omega)
    have hixw : IntKind.i64.wrap (M3.ix + 1) = M3.ix + 1 := IntWalk.i64_in _ (by have h1 := HIX.out; have h2 := HM4.out.is.ok.i0; omega)
    clear hW hbW hrW hrb
    unfold nextB at hno
    cases hA : (ei == M3.ix + 1)
    case false =>
     have HA := hide hA
     clear hA hno
     refine wp_region_held_drew (S := (fun U => U.cell? ⟨b, 0, none⟩ = some (.int .i64 ei) ∧ U.cell? ⟨b, 1, none⟩ = some (.int .i64 et))) (by kernel_rfl) (HKP.out _ (bdrew W 1)) (fun hHeld => ?_)
     refine wpAnyH_take (i := 0) (oi := { dst := some 42, op := Op.fieldAddr 55 (Operand.tmp 3) 0, type := 0, pos := "law.go:319", after := #[], guard := none }) (v := ?_) rfl (by kernel_rfl) (by kernel_rfl) (by kernel_rfl) (fun _ _ _ h => h) (Or.inl ⟨by rfl, ?_⟩) (by assumption) ?_
     rotate_left
     ·intro w hSw
      (try dsimp only at hSw)
      go_simp
      try with_reducible rfl
     try simp only [Act.put, List.setIfInBounds_toArray, List.set_cons_zero, List.set_cons_succ]
     refine wpAnyH_take (i := 1) (oi := { dst := some 43, op := Op.load 3 (Operand.tmp 42), type := 3, pos := "law.go:319", after := _, guard := none }) (v := ?_) rfl (by kernel_rfl) (by kernel_rfl) (by kernel_rfl) (fun _ _ _ h => h) (Or.inl ⟨by rfl, ?_⟩) (by assumption) ?_
     rotate_left
     ·intro w hSw
      (try dsimp only at hSw)
      go_simp
      try with_reducible rfl
     try simp only [Act.put, List.setIfInBounds_toArray, List.set_cons_zero, List.set_cons_succ]
     refine wpAnyH_take (i := 2) (oi := { dst := some 44, op := Op.move (Operand.tmp 7), type := 47, pos := "law.go:319", after := #[], guard := none }) (v := ?_) rfl (by kernel_rfl) (by kernel_rfl) (by kernel_rfl) (fun _ _ _ h => h) (Or.inl ⟨by rfl, ?_⟩) (by assumption) ?_
     rotate_left
     ·intro w hSw
      (try dsimp only at hSw)
      go_simp
      try with_reducible rfl
     try simp only [Act.put, List.setIfInBounds_toArray, List.set_cons_zero, List.set_cons_succ]
     refine wpAnyH_ready (rs := [3]) (by kernel_rfl) (by simp) ?_
     refine AllReadyH.cons (o := { dst := some 45, op := Op.call { callee := Callee.value (Operand.func 40), args := #[Operand.tmp 44], argTypes := #[47] }, type := 3, pos := "law.go:319", after := _, guard := none }) rfl (fun K hK => ?_) AllReadyH.nil
     go_simp
     go_at_call 40
     refine (HI1.out _ (bdrew W 1)).mono ?_
     rintro e1 W1 ⟨rfl, rfl⟩
     first
      | refine hK.out _ _ ?_ (fun hHeld => ?_)
      | (go_wp2_with fail; refine hK.out _ _ ?_ (fun hHeld => ?_))
     ·exact (HKP.out _ (bdrew W 1))
     clear hK K
     try simp only [Act.put, List.setIfInBounds_toArray, List.set_cons_zero, List.set_cons_succ]
     refine wpAnyH_take (i := 4) (oi := { dst := some 46, op := Op.binOp BinOp.add 3 (Operand.tmp 45) (Operand.const (Value.int IntKind.i64 1)) 3, type := 3, pos := "law.go:319", after := _, guard := none }) (v := ?_) rfl (by kernel_rfl) (by kernel_rfl) (by kernel_rfl) (fun _ _ _ h => h) (Or.inl ⟨by rfl, ?_⟩) (by assumption) ?_
     rotate_left
     ·intro w hSw
      (try dsimp only at hSw)
      go_simp
      try with_reducible rfl
     try simp only [Act.put, List.setIfInBounds_toArray, List.set_cons_zero, List.set_cons_succ]
     refine wpAnyH_take (i := 5) (oi := { dst := some 47, op := Op.binOp BinOp.eql 3 (Operand.tmp 43) (Operand.tmp 46) 3, type := 4, pos := "law.go:319", after := _, guard := none }) (v := (.bool false)) rfl (by kernel_rfl) (by kernel_rfl) (by kernel_rfl) (fun _ _ _ h => h) (Or.inl ⟨by rfl, ?_⟩) (by assumption) ?_
     ·intro w hSw
      (try dsimp only at hSw)
      go_simp
      try (first | with_reducible rfl | (have h := HA.out; simpa using h) | (have h := HA.out; simp at h; omega))
     try simp only [Act.put, List.setIfInBounds_toArray, List.set_cons_zero, List.set_cons_succ]
     refine wpAnyH_take (i := 6) (oi := { dst := some 48, op := Op.move (Operand.tmp 47), type := 4, pos := "law.go:319", after := _, guard := none }) (v := (.bool false)) rfl (by kernel_rfl) (by kernel_rfl) (by kernel_rfl) (fun _ _ _ h => h) (Or.inl ⟨by rfl, ?_⟩) (by assumption) ?_
     ·intro w hSw
      (try dsimp only at hSw)
      go_simp
      try with_reducible rfl
     try simp only [Act.put, List.setIfInBounds_toArray, List.set_cons_zero, List.set_cons_succ]
     refine wpAnyH_take (i := 7) (oi := { dst := some 49, op := Op.fieldAddr 55 (Operand.tmp 3) 1, type := 0, pos := "law.go:319", after := _, guard := some (6, true) }) (v := undef) rfl (by kernel_rfl) (by kernel_rfl) (by kernel_rfl) (fun _ _ _ h => h) (Or.inr ⟨by rfl, rfl⟩) (by assumption) ?_
     try simp only [Act.put, List.setIfInBounds_toArray, List.set_cons_zero, List.set_cons_succ]
     refine wpAnyH_take (i := 8) (oi := { dst := some 50, op := Op.load 3 (Operand.tmp 49), type := 3, pos := "law.go:319", after := _, guard := some (6, true) }) (v := undef) rfl (by kernel_rfl) (by kernel_rfl) (by kernel_rfl) (fun _ _ _ h => h) (Or.inr ⟨by rfl, rfl⟩) (by assumption) ?_
     try simp only [Act.put, List.setIfInBounds_toArray, List.set_cons_zero, List.set_cons_succ]
     refine wpAnyH_take (i := 9) (oi := { dst := some 51, op := Op.move (Operand.tmp 7), type := 47, pos := "law.go:319", after := _, guard := some (6, true) }) (v := undef) rfl (by kernel_rfl) (by kernel_rfl) (by kernel_rfl) (fun _ _ _ h => h) (Or.inr ⟨by rfl, rfl⟩) (by assumption) ?_
     try simp only [Act.put, List.setIfInBounds_toArray, List.set_cons_zero, List.set_cons_succ]
     refine wpAnyH_take (i := 10) (oi := { dst := some 52, op := Op.call { callee := Callee.value (Operand.func 41), args := #[Operand.tmp 51], argTypes := #[47] }, type := 3, pos := "law.go:319", after := _, guard := some (6, true) }) (v := undef) rfl (by kernel_rfl) (by kernel_rfl) (by kernel_rfl) (fun _ _ _ h => h) (Or.inr ⟨by rfl, rfl⟩) (by assumption) ?_
     try simp only [Act.put, List.setIfInBounds_toArray, List.set_cons_zero, List.set_cons_succ]
     refine wpAnyH_take (i := 11) (oi := { dst := some 53, op := Op.call { callee := Callee.builtin Builtin.max, args := #[Operand.tmp 52, Operand.const (Value.int IntKind.i64 1)], argTypes := #[3, 3] }, type := 3, pos := "law.go:319", after := _, guard := some (6, true) }) (v := undef) rfl (by kernel_rfl) (by kernel_rfl) (by kernel_rfl) (fun _ _ _ h => h) (Or.inr ⟨by rfl, rfl⟩) (by assumption) ?_
     try simp only [Act.put, List.setIfInBounds_toArray, List.set_cons_zero, List.set_cons_succ]
     refine wpAnyH_take (i := 12) (oi := { dst := some 54, op := Op.binOp BinOp.geq 3 (Operand.tmp 50) (Operand.tmp 53) 3, type := 4, pos := "law.go:319", after := _, guard := some (6, true) }) (v := undef) rfl (by kernel_rfl) (by kernel_rfl) (by kernel_rfl) (fun _ _ _ h => h) (Or.inr ⟨by rfl, rfl⟩) (by assumption) ?_
     try simp only [Act.put, List.setIfInBounds_toArray, List.set_cons_zero, List.set_cons_succ]
     refine wpAnyH_take (i := 13) (oi := { dst := some 55, op := Op.pick (Operand.tmp 48) (Operand.tmp 54) (Operand.const (Value.bool false)), type := 4, pos := "law.go:319", after := _, guard := none }) (v := (.bool false)) rfl (by kernel_rfl) (by kernel_rfl) (by kernel_rfl) (fun _ _ _ h => h) (Or.inl ⟨by rfl, ?_⟩) (by assumption) ?_
     ·intro w hSw
      (try dsimp only at hSw)
      go_simp
      try with_reducible rfl
     try simp only [Act.put, List.setIfInBounds_toArray, List.set_cons_zero, List.set_cons_succ]
     refine wpAnyH_take (i := 14) (oi := { dst := some 56, op := Op.move (Operand.tmp 55), type := 4, pos := "law.go:319", after := _, guard := none }) (v := (.bool false)) rfl (by kernel_rfl) (by kernel_rfl) (by kernel_rfl) (fun _ _ _ h => h) (Or.inl ⟨by rfl, ?_⟩) (by assumption) ?_
     ·intro w hSw
      (try dsimp only at hSw)
      go_simp
      try with_reducible rfl
     try simp only [Act.put, List.setIfInBounds_toArray, List.set_cons_zero, List.set_cons_succ]
     refine wpAnyH_take (i := 15) (oi := { dst := some 57, op := Op.fieldAddr 55 (Operand.tmp 3) 1, type := 0, pos := "law.go:319", after := _, guard := some (14, true) }) (v := undef) rfl (by kernel_rfl) (by kernel_rfl) (by kernel_rfl) (fun _ _ _ h => h) (Or.inr ⟨by rfl, rfl⟩) (by assumption) ?_
     try simp only [Act.put, List.setIfInBounds_toArray, List.set_cons_zero, List.set_cons_succ]
     refine wpAnyH_take (i := 16) (oi := { dst := some 58, op := Op.load 3 (Operand.tmp 57), type := 3, pos := "law.go:319", after := _, guard := some (14, true) }) (v := undef) rfl (by kernel_rfl) (by kernel_rfl) (by kernel_rfl) (fun _ _ _ h => h) (Or.inr ⟨by rfl, rfl⟩) (by assumption) ?_
     try simp only [Act.put, List.setIfInBounds_toArray, List.set_cons_zero, List.set_cons_succ]
     refine wpAnyH_take (i := 17) (oi := { dst := some 59, op := Op.binOp BinOp.leq 3 (Operand.tmp 58) (Operand.const (Value.int IntKind.i64 1099511627776)) 3, type := 4, pos := "law.go:319", after := _, guard := some (14, true) }) (v := undef) rfl (by kernel_rfl) (by kernel_rfl) (by kernel_rfl) (fun _ _ _ h => h) (Or.inr ⟨by rfl, rfl⟩) (by assumption) ?_
     try simp only [Act.put, List.setIfInBounds_toArray, List.set_cons_zero, List.set_cons_succ]
     refine wpAnyH_take (i := 18) (oi := { dst := some 60, op := Op.pick (Operand.tmp 56) (Operand.tmp 59) (Operand.const (Value.bool false)), type := 4, pos := "law.go:319", after := _, guard := none }) (v := (.bool false)) rfl (by kernel_rfl) (by kernel_rfl) (by kernel_rfl) (fun _ _ _ h => h) (Or.inl ⟨by rfl, ?_⟩) (by assumption) ?_
     ·intro w hSw
      (try dsimp only at hSw)
      go_simp
      try with_reducible rfl
     try simp only [Act.put, List.setIfInBounds_toArray, List.set_cons_zero, List.set_cons_succ]
     refine wpAnyH_take (i := 19) (oi := { dst := some 10, op := Op.assign (Operand.tmp 60), type := 4, pos := "law.go:319", after := _, guard := none }) (v := ?_) rfl (by kernel_rfl) (by kernel_rfl) (by kernel_rfl) (fun _ _ _ h => h) (Or.inl ⟨by rfl, ?_⟩) (by assumption) ?_
     rotate_left
     ·intro w hSw
      (try dsimp only at hSw)
      go_simp
      try with_reducible rfl
     try simp only [Act.put, List.setIfInBounds_toArray, List.set_cons_zero, List.set_cons_succ]
     refine wpAnyH_done (by kernel_rfl) ?_ _
     clear hHeld
     have HBQ : Hid (Below W.heap.size W (W.drewN 1)) := hide (bdrew W 1)
     obtain ⟨z0, z1, z2, z3, z4, z5, z6, z7⟩ := HKZ.out _ HBQ.out
     go_wp2_with fail
     have hq7 := heqZ (W.drewN 1)
     go_wp2_with fail
     refine (HIA.out _ HBQ.out).mono ?_
     rintro e v1 ⟨q1, r1, s1, rfl, ho1, hb1⟩
     have HO1 := hide ho1.by_
     have HBQ1 : Hid (Below W.heap.size W v1) := hide (bthen HBQ.out hb1)
     clear ho1 hb1
     go_wp2_with fail
     refine (HIB.out _ HBQ1.out).mono ?_
     rintro e v2 ⟨q2, r2, s2, rfl, ho2, hb2⟩
     have HEQ := hide (equalT_any (HO1.out.below hb2) ho2.by_)
     have HBQ2 : Hid (Below W.heap.size W v2) := hide (bthen HBQ1.out hb2)
     clear ho2 hb2
     go_wp2_with fail
     refine HEQ.out.mono ?_
     rintro e v3 ⟨rfl, rfl⟩
     go_wp2_with fail
     refine (HAW.out _ HBQ2.out).mono ?_
     rintro e v4 ⟨rfl, h4⟩
     go_wp2_with fail
     go_ret
     exact ⟨rfl, bthen HBW.out (bthen HBQ2.out h4)⟩
    case true =>
    rw [hA, Bool.true_and] at hno
    have HA := hide hA
    cases hB : decide (max M3.tm 1 ≤ et)
    case false =>
     have HBx := hide hB
     clear hA hB hno
     refine wp_region_held_drew (S := (fun U => U.cell? ⟨b, 0, none⟩ = some (.int .i64 ei) ∧ U.cell? ⟨b, 1, none⟩ = some (.int .i64 et))) (by kernel_rfl) (HKP.out _ (bdrew W 1)) (fun hHeld => ?_)
     refine wpAnyH_take (i := 0) (oi := { dst := some 42, op := Op.fieldAddr 55 (Operand.tmp 3) 0, type := 0, pos := "law.go:319", after := #[], guard := none }) (v := ?_) rfl (by kernel_rfl) (by kernel_rfl) (by kernel_rfl) (fun _ _ _ h => h) (Or.inl ⟨by rfl, ?_⟩) (by assumption) ?_
     rotate_left
     ·intro w hSw
      (try dsimp only at hSw)
      go_simp
      try with_reducible rfl
     try simp only [Act.put, List.setIfInBounds_toArray, List.set_cons_zero, List.set_cons_succ]
     refine wpAnyH_take (i := 1) (oi := { dst := some 43, op := Op.load 3 (Operand.tmp 42), type := 3, pos := "law.go:319", after := _, guard := none }) (v := ?_) rfl (by kernel_rfl) (by kernel_rfl) (by kernel_rfl) (fun _ _ _ h => h) (Or.inl ⟨by rfl, ?_⟩) (by assumption) ?_
     rotate_left
     ·intro w hSw
      (try dsimp only at hSw)
      go_simp
      try with_reducible rfl
     try simp only [Act.put, List.setIfInBounds_toArray, List.set_cons_zero, List.set_cons_succ]
     refine wpAnyH_take (i := 2) (oi := { dst := some 44, op := Op.move (Operand.tmp 7), type := 47, pos := "law.go:319", after := #[], guard := none }) (v := ?_) rfl (by kernel_rfl) (by kernel_rfl) (by kernel_rfl) (fun _ _ _ h => h) (Or.inl ⟨by rfl, ?_⟩) (by assumption) ?_
     rotate_left
     ·intro w hSw
      (try dsimp only at hSw)
      go_simp
      try with_reducible rfl
     try simp only [Act.put, List.setIfInBounds_toArray, List.set_cons_zero, List.set_cons_succ]
     refine wpAnyH_ready (rs := [3]) (by kernel_rfl) (by simp) ?_
     refine AllReadyH.cons (o := { dst := some 45, op := Op.call { callee := Callee.value (Operand.func 40), args := #[Operand.tmp 44], argTypes := #[47] }, type := 3, pos := "law.go:319", after := _, guard := none }) rfl (fun K hK => ?_) AllReadyH.nil
     go_simp
     go_at_call 40
     refine (HI1.out _ (bdrew W 1)).mono ?_
     rintro e1 W1 ⟨rfl, rfl⟩
     first
      | refine hK.out _ _ ?_ (fun hHeld => ?_)
      | (go_wp2_with fail; refine hK.out _ _ ?_ (fun hHeld => ?_))
     ·exact (HKP.out _ (bdrew W 1))
     clear hK K
     try simp only [Act.put, List.setIfInBounds_toArray, List.set_cons_zero, List.set_cons_succ]
     refine wpAnyH_take (i := 4) (oi := { dst := some 46, op := Op.binOp BinOp.add 3 (Operand.tmp 45) (Operand.const (Value.int IntKind.i64 1)) 3, type := 3, pos := "law.go:319", after := _, guard := none }) (v := ?_) rfl (by kernel_rfl) (by kernel_rfl) (by kernel_rfl) (fun _ _ _ h => h) (Or.inl ⟨by rfl, ?_⟩) (by assumption) ?_
     rotate_left
     ·intro w hSw
      (try dsimp only at hSw)
      go_simp
      try with_reducible rfl
     try simp only [Act.put, List.setIfInBounds_toArray, List.set_cons_zero, List.set_cons_succ]
     refine wpAnyH_take (i := 5) (oi := { dst := some 47, op := Op.binOp BinOp.eql 3 (Operand.tmp 43) (Operand.tmp 46) 3, type := 4, pos := "law.go:319", after := _, guard := none }) (v := (.bool true)) rfl (by kernel_rfl) (by kernel_rfl) (by kernel_rfl) (fun _ _ _ h => h) (Or.inl ⟨by rfl, ?_⟩) (by assumption) ?_
     ·intro w hSw
      (try dsimp only at hSw)
      go_simp
      try (first | with_reducible rfl | (have h := HA.out; simpa using h) | (have h := HA.out; simp at h; omega))
     try simp only [Act.put, List.setIfInBounds_toArray, List.set_cons_zero, List.set_cons_succ]
     refine wpAnyH_take (i := 6) (oi := { dst := some 48, op := Op.move (Operand.tmp 47), type := 4, pos := "law.go:319", after := _, guard := none }) (v := (.bool true)) rfl (by kernel_rfl) (by kernel_rfl) (by kernel_rfl) (fun _ _ _ h => h) (Or.inl ⟨by rfl, ?_⟩) (by assumption) ?_
     ·intro w hSw
      (try dsimp only at hSw)
      go_simp
      try with_reducible rfl
     try simp only [Act.put, List.setIfInBounds_toArray, List.set_cons_zero, List.set_cons_succ]
     refine wpAnyH_take (i := 7) (oi := { dst := some 49, op := Op.fieldAddr 55 (Operand.tmp 3) 1, type := 0, pos := "law.go:319", after := _, guard := some (6, true) }) (v := ?_) rfl (by kernel_rfl) (by kernel_rfl) (by kernel_rfl) (fun _ _ _ h => h) (Or.inl ⟨by rfl, ?_⟩) (by assumption) ?_
     rotate_left
     ·intro w hSw
      (try dsimp only at hSw)
      go_simp
      try with_reducible rfl
     try simp only [Act.put, List.setIfInBounds_toArray, List.set_cons_zero, List.set_cons_succ]
     refine wpAnyH_take (i := 8) (oi := { dst := some 50, op := Op.load 3 (Operand.tmp 49), type := 3, pos := "law.go:319", after := _, guard := some (6, true) }) (v := ?_) rfl (by kernel_rfl) (by kernel_rfl) (by kernel_rfl) (fun _ _ _ h => h) (Or.inl ⟨by rfl, ?_⟩) (by assumption) ?_
     rotate_left
     ·intro w hSw
      (try dsimp only at hSw)
      go_simp
      try with_reducible rfl
     try simp only [Act.put, List.setIfInBounds_toArray, List.set_cons_zero, List.set_cons_succ]
     refine wpAnyH_take (i := 9) (oi := { dst := some 51, op := Op.move (Operand.tmp 7), type := 47, pos := "law.go:319", after := _, guard := some (6, true) }) (v := ?_) rfl (by kernel_rfl) (by kernel_rfl) (by kernel_rfl) (fun _ _ _ h => h) (Or.inl ⟨by rfl, ?_⟩) (by assumption) ?_
     rotate_left
     ·intro w hSw
      (try dsimp only at hSw)
      go_simp
      try with_reducible rfl
     try simp only [Act.put, List.setIfInBounds_toArray, List.set_cons_zero, List.set_cons_succ]
     refine wpAnyH_ready (rs := [10]) (by kernel_rfl) (by simp) ?_
     refine AllReadyH.cons (o := { dst := some 52, op := Op.call { callee := Callee.value (Operand.func 41), args := #[Operand.tmp 51], argTypes := #[47] }, type := 3, pos := "law.go:319", after := _, guard := some (6, true) }) rfl (fun K hK => ?_) AllReadyH.nil
     go_simp
     go_at_call 41
     refine (HI2.out _ (bdrew W 1)).mono ?_
     rintro e2 W2 ⟨rfl, rfl⟩
     first
      | refine hK.out _ _ ?_ (fun hHeld => ?_)
      | (go_wp2_with fail; refine hK.out _ _ ?_ (fun hHeld => ?_))
     ·exact (HKP.out _ (bdrew W 1))
     clear hK K
     try simp only [Act.put, List.setIfInBounds_toArray, List.set_cons_zero, List.set_cons_succ]
     refine wpAnyH_take (i := 11) (oi := { dst := some 53, op := Op.call { callee := Callee.builtin Builtin.max, args := #[Operand.tmp 52, Operand.const (Value.int IntKind.i64 1)], argTypes := #[3, 3] }, type := 3, pos := "law.go:319", after := _, guard := some (6, true) }) (v := ?_) rfl (by kernel_rfl) (by kernel_rfl) (by kernel_rfl) (fun _ _ _ h => h) (Or.inl ⟨by rfl, ?_⟩) (by assumption) ?_
     rotate_left
     ·intro w hSw
      (try dsimp only at hSw)
      go_simp
      try with_reducible rfl
     try simp only [Act.put, List.setIfInBounds_toArray, List.set_cons_zero, List.set_cons_succ]
     refine wpAnyH_take (i := 12) (oi := { dst := some 54, op := Op.binOp BinOp.geq 3 (Operand.tmp 50) (Operand.tmp 53) 3, type := 4, pos := "law.go:319", after := _, guard := some (6, true) }) (v := (.bool false)) rfl (by kernel_rfl) (by kernel_rfl) (by kernel_rfl) (fun _ _ _ h => h) (Or.inl ⟨by rfl, ?_⟩) (by assumption) ?_
     ·intro w hSw
      (try dsimp only at hSw)
      go_simp
      try (first | with_reducible rfl | (have h := HBx.out; simpa using h) | (have h := HBx.out; simp at h; omega))
     try simp only [Act.put, List.setIfInBounds_toArray, List.set_cons_zero, List.set_cons_succ]
     refine wpAnyH_take (i := 13) (oi := { dst := some 55, op := Op.pick (Operand.tmp 48) (Operand.tmp 54) (Operand.const (Value.bool false)), type := 4, pos := "law.go:319", after := _, guard := none }) (v := (.bool false)) rfl (by kernel_rfl) (by kernel_rfl) (by kernel_rfl) (fun _ _ _ h => h) (Or.inl ⟨by rfl, ?_⟩) (by assumption) ?_
     ·intro w hSw
      (try dsimp only at hSw)
      go_simp
      try with_reducible rfl
     try simp only [Act.put, List.setIfInBounds_toArray, List.set_cons_zero, List.set_cons_succ]
     refine wpAnyH_take (i := 14) (oi := { dst := some 56, op := Op.move (Operand.tmp 55), type := 4, pos := "law.go:319", after := _, guard := none }) (v := (.bool false)) rfl (by kernel_rfl) (by kernel_rfl) (by kernel_rfl) (fun _ _ _ h => h) (Or.inl ⟨by rfl, ?_⟩) (by assumption) ?_
     ·intro w hSw
      (try dsimp only at hSw)
      go_simp
      try with_reducible rfl
     try simp only [Act.put, List.setIfInBounds_toArray, List.set_cons_zero, List.set_cons_succ]
     refine wpAnyH_take (i := 15) (oi := { dst := some 57, op := Op.fieldAddr 55 (Operand.tmp 3) 1, type := 0, pos := "law.go:319", after := _, guard := some (14, true) }) (v := undef) rfl (by kernel_rfl) (by kernel_rfl) (by kernel_rfl) (fun _ _ _ h => h) (Or.inr ⟨by rfl, rfl⟩) (by assumption) ?_
     try simp only [Act.put, List.setIfInBounds_toArray, List.set_cons_zero, List.set_cons_succ]
     refine wpAnyH_take (i := 16) (oi := { dst := some 58, op := Op.load 3 (Operand.tmp 57), type := 3, pos := "law.go:319", after := _, guard := some (14, true) }) (v := undef) rfl (by kernel_rfl) (by kernel_rfl) (by kernel_rfl) (fun _ _ _ h => h) (Or.inr ⟨by rfl, rfl⟩) (by assumption) ?_
     try simp only [Act.put, List.setIfInBounds_toArray, List.set_cons_zero, List.set_cons_succ]
     refine wpAnyH_take (i := 17) (oi := { dst := some 59, op := Op.binOp BinOp.leq 3 (Operand.tmp 58) (Operand.const (Value.int IntKind.i64 1099511627776)) 3, type := 4, pos := "law.go:319", after := _, guard := some (14, true) }) (v := undef) rfl (by kernel_rfl) (by kernel_rfl) (by kernel_rfl) (fun _ _ _ h => h) (Or.inr ⟨by rfl, rfl⟩) (by assumption) ?_
     try simp only [Act.put, List.setIfInBounds_toArray, List.set_cons_zero, List.set_cons_succ]
     refine wpAnyH_take (i := 18) (oi := { dst := some 60, op := Op.pick (Operand.tmp 56) (Operand.tmp 59) (Operand.const (Value.bool false)), type := 4, pos := "law.go:319", after := _, guard := none }) (v := (.bool false)) rfl (by kernel_rfl) (by kernel_rfl) (by kernel_rfl) (fun _ _ _ h => h) (Or.inl ⟨by rfl, ?_⟩) (by assumption) ?_
     ·intro w hSw
      (try dsimp only at hSw)
      go_simp
      try with_reducible rfl
     try simp only [Act.put, List.setIfInBounds_toArray, List.set_cons_zero, List.set_cons_succ]
     refine wpAnyH_take (i := 19) (oi := { dst := some 10, op := Op.assign (Operand.tmp 60), type := 4, pos := "law.go:319", after := _, guard := none }) (v := ?_) rfl (by kernel_rfl) (by kernel_rfl) (by kernel_rfl) (fun _ _ _ h => h) (Or.inl ⟨by rfl, ?_⟩) (by assumption) ?_
     rotate_left
     ·intro w hSw
      (try dsimp only at hSw)
      go_simp
      try with_reducible rfl
     try simp only [Act.put, List.setIfInBounds_toArray, List.set_cons_zero, List.set_cons_succ]
     refine wpAnyH_done (by kernel_rfl) ?_ _
     clear hHeld
     have HBQ : Hid (Below W.heap.size W (W.drewN 1)) := hide (bdrew W 1)
     obtain ⟨z0, z1, z2, z3, z4, z5, z6, z7⟩ := HKZ.out _ HBQ.out
     go_wp2_with fail
     have hq7 := heqZ (W.drewN 1)
     go_wp2_with fail
     refine (HIA.out _ HBQ.out).mono ?_
     rintro e v1 ⟨q1, r1, s1, rfl, ho1, hb1⟩
     have HO1 := hide ho1.by_
     have HBQ1 : Hid (Below W.heap.size W v1) := hide (bthen HBQ.out hb1)
     clear ho1 hb1
     go_wp2_with fail
     refine (HIB.out _ HBQ1.out).mono ?_
     rintro e v2 ⟨q2, r2, s2, rfl, ho2, hb2⟩
     have HEQ := hide (equalT_any (HO1.out.below hb2) ho2.by_)
     have HBQ2 : Hid (Below W.heap.size W v2) := hide (bthen HBQ1.out hb2)
     clear ho2 hb2
     go_wp2_with fail
     refine HEQ.out.mono ?_
     rintro e v3 ⟨rfl, rfl⟩
     go_wp2_with fail
     refine (HAW.out _ HBQ2.out).mono ?_
     rintro e v4 ⟨rfl, h4⟩
     go_wp2_with fail
     go_ret
     exact ⟨rfl, bthen HBW.out (bthen HBQ2.out h4)⟩
    case true =>
     rw [hB, Bool.true_and] at hno
     have HBx := hide hB
     have HCx := hide hno
     clear hA hB hno
     refine wp_region_held_drew (S := (fun U => U.cell? ⟨b, 0, none⟩ = some (.int .i64 ei) ∧ U.cell? ⟨b, 1, none⟩ = some (.int .i64 et))) (by kernel_rfl) (HKP.out _ (bdrew W 1)) (fun hHeld => ?_)
     refine wpAnyH_take (i := 0) (oi := { dst := some 42, op := Op.fieldAddr 55 (Operand.tmp 3) 0, type := 0, pos := "law.go:319", after := #[], guard := none }) (v := ?_) rfl (by kernel_rfl) (by kernel_rfl) (by kernel_rfl) (fun _ _ _ h => h) (Or.inl ⟨by rfl, ?_⟩) (by assumption) ?_
     rotate_left
     ·intro w hSw
      (try dsimp only at hSw)
      go_simp
      try with_reducible rfl
     try simp only [Act.put, List.setIfInBounds_toArray, List.set_cons_zero, List.set_cons_succ]
     refine wpAnyH_take (i := 1) (oi := { dst := some 43, op := Op.load 3 (Operand.tmp 42), type := 3, pos := "law.go:319", after := _, guard := none }) (v := ?_) rfl (by kernel_rfl) (by kernel_rfl) (by kernel_rfl) (fun _ _ _ h => h) (Or.inl ⟨by rfl, ?_⟩) (by assumption) ?_
     rotate_left
     ·intro w hSw
      (try dsimp only at hSw)
      go_simp
      try with_reducible rfl
     try simp only [Act.put, List.setIfInBounds_toArray, List.set_cons_zero, List.set_cons_succ]
     refine wpAnyH_take (i := 2) (oi := { dst := some 44, op := Op.move (Operand.tmp 7), type := 47, pos := "law.go:319", after := #[], guard := none }) (v := ?_) rfl (by kernel_rfl) (by kernel_rfl) (by kernel_rfl) (fun _ _ _ h => h) (Or.inl ⟨by rfl, ?_⟩) (by assumption) ?_
     rotate_left
     ·intro w hSw
      (try dsimp only at hSw)
      go_simp
      try with_reducible rfl
     try simp only [Act.put, List.setIfInBounds_toArray, List.set_cons_zero, List.set_cons_succ]
     refine wpAnyH_ready (rs := [3]) (by kernel_rfl) (by simp) ?_
     refine AllReadyH.cons (o := { dst := some 45, op := Op.call { callee := Callee.value (Operand.func 40), args := #[Operand.tmp 44], argTypes := #[47] }, type := 3, pos := "law.go:319", after := _, guard := none }) rfl (fun K hK => ?_) AllReadyH.nil
     go_simp
     go_at_call 40
     refine (HI1.out _ (bdrew W 1)).mono ?_
     rintro e1 W1 ⟨rfl, rfl⟩
     first
      | refine hK.out _ _ ?_ (fun hHeld => ?_)
      | (go_wp2_with fail; refine hK.out _ _ ?_ (fun hHeld => ?_))
     ·exact (HKP.out _ (bdrew W 1))
     clear hK K
     try simp only [Act.put, List.setIfInBounds_toArray, List.set_cons_zero, List.set_cons_succ]
     refine wpAnyH_take (i := 4) (oi := { dst := some 46, op := Op.binOp BinOp.add 3 (Operand.tmp 45) (Operand.const (Value.int IntKind.i64 1)) 3, type := 3, pos := "law.go:319", after := _, guard := none }) (v := ?_) rfl (by kernel_rfl) (by kernel_rfl) (by kernel_rfl) (fun _ _ _ h => h) (Or.inl ⟨by rfl, ?_⟩) (by assumption) ?_
     rotate_left
     ·intro w hSw
      (try dsimp only at hSw)
      go_simp
      try with_reducible rfl
     try simp only [Act.put, List.setIfInBounds_toArray, List.set_cons_zero, List.set_cons_succ]
     refine wpAnyH_take (i := 5) (oi := { dst := some 47, op := Op.binOp BinOp.eql 3 (Operand.tmp 43) (Operand.tmp 46) 3, type := 4, pos := "law.go:319", after := _, guard := none }) (v := (.bool true)) rfl (by kernel_rfl) (by kernel_rfl) (by kernel_rfl) (fun _ _ _ h => h) (Or.inl ⟨by rfl, ?_⟩) (by assumption) ?_
     ·intro w hSw
      (try dsimp only at hSw)
      go_simp
      try (first | with_reducible rfl | (have h := HA.out; simpa using h) | (have h := HA.out; simp at h; omega))
     try simp only [Act.put, List.setIfInBounds_toArray, List.set_cons_zero, List.set_cons_succ]
     refine wpAnyH_take (i := 6) (oi := { dst := some 48, op := Op.move (Operand.tmp 47), type := 4, pos := "law.go:319", after := _, guard := none }) (v := (.bool true)) rfl (by kernel_rfl) (by kernel_rfl) (by kernel_rfl) (fun _ _ _ h => h) (Or.inl ⟨by rfl, ?_⟩) (by assumption) ?_
     ·intro w hSw
      (try dsimp only at hSw)
      go_simp
      try with_reducible rfl
     try simp only [Act.put, List.setIfInBounds_toArray, List.set_cons_zero, List.set_cons_succ]
     refine wpAnyH_take (i := 7) (oi := { dst := some 49, op := Op.fieldAddr 55 (Operand.tmp 3) 1, type := 0, pos := "law.go:319", after := _, guard := some (6, true) }) (v := ?_) rfl (by kernel_rfl) (by kernel_rfl) (by kernel_rfl) (fun _ _ _ h => h) (Or.inl ⟨by rfl, ?_⟩) (by assumption) ?_
     rotate_left
     ·intro w hSw
      (try dsimp only at hSw)
      go_simp
      try with_reducible rfl
     try simp only [Act.put, List.setIfInBounds_toArray, List.set_cons_zero, List.set_cons_succ]
     refine wpAnyH_take (i := 8) (oi := { dst := some 50, op := Op.load 3 (Operand.tmp 49), type := 3, pos := "law.go:319", after := _, guard := some (6, true) }) (v := ?_) rfl (by kernel_rfl) (by kernel_rfl) (by kernel_rfl) (fun _ _ _ h => h) (Or.inl ⟨by rfl, ?_⟩) (by assumption) ?_
     rotate_left
     ·intro w hSw
      (try dsimp only at hSw)
      go_simp
      try with_reducible rfl
     try simp only [Act.put, List.setIfInBounds_toArray, List.set_cons_zero, List.set_cons_succ]
     refine wpAnyH_take (i := 9) (oi := { dst := some 51, op := Op.move (Operand.tmp 7), type := 47, pos := "law.go:319", after := _, guard := some (6, true) }) (v := ?_) rfl (by kernel_rfl) (by kernel_rfl) (by kernel_rfl) (fun _ _ _ h => h) (Or.inl ⟨by rfl, ?_⟩) (by assumption) ?_
     rotate_left
     ·intro w hSw
      (try dsimp only at hSw)
      go_simp
      try with_reducible rfl
     try simp only [Act.put, List.setIfInBounds_toArray, List.set_cons_zero, List.set_cons_succ]
     refine wpAnyH_ready (rs := [10]) (by kernel_rfl) (by simp) ?_
     refine AllReadyH.cons (o := { dst := some 52, op := Op.call { callee := Callee.value (Operand.func 41), args := #[Operand.tmp 51], argTypes := #[47] }, type := 3, pos := "law.go:319", after := _, guard := some (6, true) }) rfl (fun K hK => ?_) AllReadyH.nil
     go_simp
     go_at_call 41
     refine (HI2.out _ (bdrew W 1)).mono ?_
     rintro e2 W2 ⟨rfl, rfl⟩
     first
      | refine hK.out _ _ ?_ (fun hHeld => ?_)
      | (go_wp2_with fail; refine hK.out _ _ ?_ (fun hHeld => ?_))
     ·exact (HKP.out _ (bdrew W 1))
     clear hK K
     try simp only [Act.put, List.setIfInBounds_toArray, List.set_cons_zero, List.set_cons_succ]
     refine wpAnyH_take (i := 11) (oi := { dst := some 53, op := Op.call { callee := Callee.builtin Builtin.max, args := #[Operand.tmp 52, Operand.const (Value.int IntKind.i64 1)], argTypes := #[3, 3] }, type := 3, pos := "law.go:319", after := _, guard := some (6, true) }) (v := ?_) rfl (by kernel_rfl) (by kernel_rfl) (by kernel_rfl) (fun _ _ _ h => h) (Or.inl ⟨by rfl, ?_⟩) (by assumption) ?_
     rotate_left
     ·intro w hSw
      (try dsimp only at hSw)
      go_simp
      try with_reducible rfl
     try simp only [Act.put, List.setIfInBounds_toArray, List.set_cons_zero, List.set_cons_succ]
     refine wpAnyH_take (i := 12) (oi := { dst := some 54, op := Op.binOp BinOp.geq 3 (Operand.tmp 50) (Operand.tmp 53) 3, type := 4, pos := "law.go:319", after := _, guard := some (6, true) }) (v := (.bool true)) rfl (by kernel_rfl) (by kernel_rfl) (by kernel_rfl) (fun _ _ _ h => h) (Or.inl ⟨by rfl, ?_⟩) (by assumption) ?_
     ·intro w hSw
      (try dsimp only at hSw)
      go_simp
      try (first | with_reducible rfl | (have h := HBx.out; simpa using h) | (have h := HBx.out; simp at h; omega))
     try simp only [Act.put, List.setIfInBounds_toArray, List.set_cons_zero, List.set_cons_succ]
     refine wpAnyH_take (i := 13) (oi := { dst := some 55, op := Op.pick (Operand.tmp 48) (Operand.tmp 54) (Operand.const (Value.bool false)), type := 4, pos := "law.go:319", after := _, guard := none }) (v := (.bool true)) rfl (by kernel_rfl) (by kernel_rfl) (by kernel_rfl) (fun _ _ _ h => h) (Or.inl ⟨by rfl, ?_⟩) (by assumption) ?_
     ·intro w hSw
      (try dsimp only at hSw)
      go_simp
      try with_reducible rfl
     try simp only [Act.put, List.setIfInBounds_toArray, List.set_cons_zero, List.set_cons_succ]
     refine wpAnyH_take (i := 14) (oi := { dst := some 56, op := Op.move (Operand.tmp 55), type := 4, pos := "law.go:319", after := _, guard := none }) (v := (.bool true)) rfl (by kernel_rfl) (by kernel_rfl) (by kernel_rfl) (fun _ _ _ h => h) (Or.inl ⟨by rfl, ?_⟩) (by assumption) ?_
     ·intro w hSw
      (try dsimp only at hSw)
      go_simp
      try with_reducible rfl
     try simp only [Act.put, List.setIfInBounds_toArray, List.set_cons_zero, List.set_cons_succ]
     refine wpAnyH_take (i := 15) (oi := { dst := some 57, op := Op.fieldAddr 55 (Operand.tmp 3) 1, type := 0, pos := "law.go:319", after := _, guard := some (14, true) }) (v := ?_) rfl (by kernel_rfl) (by kernel_rfl) (by kernel_rfl) (fun _ _ _ h => h) (Or.inl ⟨by rfl, ?_⟩) (by assumption) ?_
     rotate_left
     ·intro w hSw
      (try dsimp only at hSw)
      go_simp
      try with_reducible rfl
     try simp only [Act.put, List.setIfInBounds_toArray, List.set_cons_zero, List.set_cons_succ]
     refine wpAnyH_take (i := 16) (oi := { dst := some 58, op := Op.load 3 (Operand.tmp 57), type := 3, pos := "law.go:319", after := _, guard := some (14, true) }) (v := ?_) rfl (by kernel_rfl) (by kernel_rfl) (by kernel_rfl) (fun _ _ _ h => h) (Or.inl ⟨by rfl, ?_⟩) (by assumption) ?_
     rotate_left
     ·intro w hSw
      (try dsimp only at hSw)
      go_simp
      try with_reducible rfl
     try simp only [Act.put, List.setIfInBounds_toArray, List.set_cons_zero, List.set_cons_succ]
     refine wpAnyH_take (i := 17) (oi := { dst := some 59, op := Op.binOp BinOp.leq 3 (Operand.tmp 58) (Operand.const (Value.int IntKind.i64 1099511627776)) 3, type := 4, pos := "law.go:319", after := _, guard := some (14, true) }) (v := (.bool false)) rfl (by kernel_rfl) (by kernel_rfl) (by kernel_rfl) (fun _ _ _ h => h) (Or.inl ⟨by rfl, ?_⟩) (by assumption) ?_
     ·intro w hSw
      (try dsimp only at hSw)
      go_simp
      try (first | with_reducible rfl | (have h := HCx.out; simpa using h) | (have h := HCx.out; simp at h; omega))
     try simp only [Act.put, List.setIfInBounds_toArray, List.set_cons_zero, List.set_cons_succ]
     refine wpAnyH_take (i := 18) (oi := { dst := some 60, op := Op.pick (Operand.tmp 56) (Operand.tmp 59) (Operand.const (Value.bool false)), type := 4, pos := "law.go:319", after := _, guard := none }) (v := (.bool false)) rfl (by kernel_rfl) (by kernel_rfl) (by kernel_rfl) (fun _ _ _ h => h) (Or.inl ⟨by rfl, ?_⟩) (by assumption) ?_
     ·intro w hSw
      (try dsimp only at hSw)
      go_simp
      try with_reducible rfl
     try simp only [Act.put, List.setIfInBounds_toArray, List.set_cons_zero, List.set_cons_succ]
     refine wpAnyH_take (i := 19) (oi := { dst := some 10, op := Op.assign (Operand.tmp 60), type := 4, pos := "law.go:319", after := _, guard := none }) (v := ?_) rfl (by kernel_rfl) (by kernel_rfl) (by kernel_rfl) (fun _ _ _ h => h) (Or.inl ⟨by rfl, ?_⟩) (by assumption) ?_
     rotate_left
     ·intro w hSw
      (try dsimp only at hSw)
      go_simp
      try with_reducible rfl
     try simp only [Act.put, List.setIfInBounds_toArray, List.set_cons_zero, List.set_cons_succ]
     refine wpAnyH_done (by kernel_rfl) ?_ _
     clear hHeld
     have HBQ : Hid (Below W.heap.size W (W.drewN 1)) := hide (bdrew W 1)
     obtain ⟨z0, z1, z2, z3, z4, z5, z6, z7⟩ := HKZ.out _ HBQ.out
     go_wp2_with fail
     have hq7 := heqZ (W.drewN 1)
     go_wp2_with fail
     refine (HIA.out _ HBQ.out).mono ?_
     rintro e v1 ⟨q1, r1, s1, rfl, ho1, hb1⟩
     have HO1 := hide ho1.by_
     have HBQ1 : Hid (Below W.heap.size W v1) := hide (bthen HBQ.out hb1)
     clear ho1 hb1
     go_wp2_with fail
     refine (HIB.out _ HBQ1.out).mono ?_
     rintro e v2 ⟨q2, r2, s2, rfl, ho2, hb2⟩
     have HEQ := hide (equalT_any (HO1.out.below hb2) ho2.by_)
     have HBQ2 : Hid (Below W.heap.size W v2) := hide (bthen HBQ1.out hb2)
     clear ho2 hb2
     go_wp2_with fail
     refine HEQ.out.mono ?_
     rintro e v3 ⟨rfl, rfl⟩
     go_wp2_with fail
     refine (HAW.out _ HBQ2.out).mono ?_
     rintro e v4 ⟨rfl, h4⟩
     go_wp2_with fail
     go_ret
     exact ⟨rfl, bthen HBW.out (bthen HBQ2.out h4)⟩
   ·have ha : appM M3 ei et l = ((doM M3 ei et l).1, 0, (doM M3 ei et l).2) := by unfold appM; rw [if_pos hnx]
    rw [ha] at hp5
    obtain ⟨rfl, P5, hto, hmk⟩ := hp5
    have HM5 := hide hmk
    have HC5 : Hid (MkIs w5 g2 P4 M3) := hide (HC4.out.chgS hto.chg (fun k hk e => by have h1 := HN4.out.1 k hk; have h2 := HN4.out.2.2 k e.sub; omega) (fun e => HM4.out.is.nz 0 e.sub rfl) (fun e => by have h1 := HN4.out.2.2 _ e.sub; have h2 := HN4.out.2.1; omega))
    have HB5 : Hid (Below w.heap.size w w5) := hide (Chg.to_below HB4.out hto.chg (fun k e => by have := HN3.out k e.sub; have := HBL.out; omega))
    have HR5 : Hid (RowE w5 b ei et (.slice pe ne ce)) := hide ((hto.chg.block b HR4.out.lt (fun e => by have := HN3.out b e.sub; have := HBL.out; omega)).trans HR4.out)
    clear hto hmk ha x0 x1 x2
    obtain ⟨dr, hdr⟩ : ∃ r, (doM M3 ei et l).1 = r := ⟨_, rfl⟩
    obtain ⟨M5, hM5⟩ : ∃ r, (doM M3 ei et l).2 = r := ⟨_, rfl⟩
    have HDM : Hid (doM M3 ei et l = (dr, M5)) := hide (by rw [← hdr, ← hM5])
    have hi5 := doM_ix M3 ei et l
    rw [hM5] at hi5 HM5
    have HI5 := hide hi5
    dsimp only
    rw [hdr]
    clear hi5
    unfold rpV
    have hbV : Below w5.heap.size w5 (w5.alloc (.cells #[.int .i64 dr.er, .int .i64 dr.rs, .int .i64 dr.gn, .int .i64 dr.ad, .int .i64 dr.sa, .int .i64 dr.ot, .int .i64 dr.cy, .int .i64 dr.fu] 66)) := (Below.refl _ _).alloc (Nat.le_refl _) _
    have HBV := hide hbV
    have HRV := hide (RowR.new w5 dr)
    obtain ⟨x0, x1, x2⟩ := (HR5.out.below hbV).z
    clear hbV hdr hM5
    have HGE := hide (mget_any (HL.out.below (HB5.out.trans (HBV.out.mono HB5.out.size))) (by have := HLN.out; omega))
    obtain ⟨gc, hgc⟩ : ∃ g, getC l = g := ⟨_, rfl⟩
    rw [hgc] at HGE
    have HGC := hide hgc
    clear hgc
    cases gc with
    | none =>
     go_wp2_with fail
     refine HGE.out.mono ?_
     rintro e w6 ⟨rfl, hb6⟩
     have HB56 : Hid (Below w5.heap.size w5 w6) := hide (HBV.out.trans (hb6.mono HBV.out.size))
     have HR6 := hide (HRV.out.below hb6)
     clear hb6 x0 x1 x2
     unfold cmV cm0
     dsimp only
     go_upto_region 14 with fail
     obtain ⟨W, hW⟩ : ∃ X, w6.alloc (.cells #[.int .i64 0, .int .i64 0, .int .i64 0, .int .i64 0, .slice none 0 0, .slice none 0 0] 25) = X := ⟨_, rfl⟩
     have hbW : Below w6.heap.size w6 W := by rw [← hW]; exact (Below.refl _ _).alloc (Nat.le_refl _) _
     rw [hW]
     have HB5W : Hid (Below w5.heap.size w5 W) := hide (HB56.out.trans (hbW.mono HB56.out.size))
     have HBW : Hid (Below w.heap.size w W) := hide (HB5.out.trans (HB5W.out.mono HB5.out.size))
     have hdm : (dr, M5) = (⟨90, 0, 0, 0, 0, 0, 0, 0⟩, { M3 with ix := ei, tm := et }) := by
      rw [← HDM.out]
      unfold doM
      rw [HGC.out]
      rfl
     injection hdm with hd1 hd2
     subst hd1 hd2
     have HMW := hide (HM5.out.below HB5W.out)
     have HCW := hide (HC5.out.below HB5W.out)
     have HRW := hide (HR6.out.below hbW)
     obtain ⟨rb, hrb⟩ : ∃ b, w5.heap.size = b := ⟨_, rfl⟩
     rw [hrb] at HRW ⊢
     have HRE := hide (HR5.out.below HB5W.out)
     have HS2 := hide (fun U (hU : Below W.heap.size W U) => mseats_is (HCW.out.below hU))
     have HS1 := hide (fun U (hU : Below W.heap.size W U) => mseats_is (HMW.out.below hU))
     have HT2 := hide (fun U (hU : Below W.heap.size W U) => mtraces_is (HCW.out.below hU))
     have HT1 := hide (fun U (hU : Below W.heap.size W U) => mtraces_is (HMW.out.below hU))
     have HV2 := hide (fun U (hU : Below W.heap.size W U) => mvoters_is (HCW.out.below hU))
     have HV1 := hide (fun U (hU : Below W.heap.size W U) => mvoters_is (HMW.out.below hU))
     have HI1 := hide (fun U (hU : Below W.heap.size W U) => mindex_any (HMW.out.below hU))
     have HAW := hide (fun U (hU : Below W.heap.size W U) => mawake_any (HE.out.below (HBW.out.trans (hU.mono HBW.out.size))))
     have HKP : Hid (∀ U, Below W.heap.size W U → U.cell? ⟨rb, 0, none⟩ = some (.int .i64 90) ∧ U.cell? ⟨rb, 1, none⟩ = some (.int .i64 0) ∧ U.cell? ⟨rb, 2, none⟩ = some (.int .i64 0) ∧ U.cell? ⟨rb, 3, none⟩ = some (.int .i64 0) ∧ U.cell? ⟨rb, 4, none⟩ = some (.int .i64 0) ∧ U.cell? ⟨rb, 5, none⟩ = some (.int .i64 0) ∧ U.cell? ⟨rb, 6, none⟩ = some (.int .i64 0) ∧ U.cell? ⟨rb, 7, none⟩ = some (.int .i64 0) ∧ U.cell? ⟨b, 0, none⟩ = some (.int .i64 ei)) := hide fun U hU => (by
      obtain ⟨a0, a1, a2, a3, a4, a5, a6, a7⟩ := (HRW.out.below hU).z
      exact ⟨a0, a1, a2, a3, a4, a5, a6, a7, (HRE.out.below hU).z.1⟩)
     have heqR : ∀ U, (binOp .eql 66 (.agg #[.int .i64 90, .int .i64 0, .int .i64 0, .int .i64 0, .int .i64 0, .int .i64 0, .int .i64 0, .int .i64 0]) (.agg #[.int .i64 90, .int .i64 0, .int .i64 0, .int .i64 0, .int .i64 0, .int .i64 0, .int .i64 0, .int .i64 0])).run Tryz.prog U = .ok (.bool true) U := fun U => by
      have h1 := rp_eql ⟨90, 0, 0, 0, 0, 0, 0, 0⟩ ⟨90, 0, 0, 0, 0, 0, 0, 0⟩ U
      rw [decide_eq_true rfl] at h1
      exact h1
     clear hW hbW hrb
     dsimp only at HI1
     refine wp_region_held_drew (S := (fun U => U.cell? ⟨rb, 0, none⟩ = some (.int .i64 90) ∧ U.cell? ⟨rb, 1, none⟩ = some (.int .i64 0) ∧ U.cell? ⟨rb, 2, none⟩ = some (.int .i64 0) ∧ U.cell? ⟨rb, 3, none⟩ = some (.int .i64 0) ∧ U.cell? ⟨rb, 4, none⟩ = some (.int .i64 0) ∧ U.cell? ⟨rb, 5, none⟩ = some (.int .i64 0) ∧ U.cell? ⟨rb, 6, none⟩ = some (.int .i64 0) ∧ U.cell? ⟨rb, 7, none⟩ = some (.int .i64 0) ∧ U.cell? ⟨b, 0, none⟩ = some (.int .i64 ei))) (by kernel_rfl) (HKP.out _ (bdrew W 1)) (fun hHeld => ?_)
     refine wpAnyH_take (i := 0) (oi := { dst := some 90, op := Op.load 66 (Operand.tmp 8), type := 66, pos := "law.go:323", after := #[], guard := none }) (v := ?_) rfl (by kernel_rfl) (by kernel_rfl) (by kernel_rfl) (fun _ _ _ h => h) (Or.inl ⟨by rfl, ?_⟩) (by assumption) ?_
     rotate_left
     ·intro w hSw
      (try dsimp only at hSw)
      go_simp
      try with_reducible rfl
     try simp only [Act.put, List.setIfInBounds_toArray, List.set_cons_zero, List.set_cons_succ]
     refine wpAnyH_take (i := 1) (oi := { dst := some 91, op := Op.build 66 #[(0, Operand.const (Value.int IntKind.i64 90))], type := 66, pos := "law.go:323", after := #[], guard := none }) (v := ?_) rfl (by kernel_rfl) (by kernel_rfl) (by kernel_rfl) (fun _ _ _ h => h) (Or.inl ⟨by rfl, ?_⟩) (by assumption) ?_
     rotate_left
     ·intro w hSw
      (try dsimp only at hSw)
      go_simp
      try with_reducible rfl
     try simp only [Act.put, List.setIfInBounds_toArray, List.set_cons_zero, List.set_cons_succ]
     refine wpAnyH_take (i := 2) (oi := { dst := some 92, op := Op.binOp BinOp.eql 66 (Operand.tmp 90) (Operand.tmp 91) 66, type := 4, pos := "law.go:323", after := _, guard := none }) (v := (.bool true)) rfl (by kernel_rfl) (by kernel_rfl) (by kernel_rfl) (fun _ _ _ h => h) (Or.inl ⟨by rfl, ?_⟩) (by assumption) ?_
     ·intro w hSw
      (try dsimp only at hSw)
      go_simp
      try (first | with_reducible rfl | exact heqR _)
     try simp only [Act.put, List.setIfInBounds_toArray, List.set_cons_zero, List.set_cons_succ]
     refine wpAnyH_take (i := 3) (oi := { dst := some 93, op := Op.move (Operand.tmp 92), type := 4, pos := "law.go:323", after := _, guard := none }) (v := (.bool true)) rfl (by kernel_rfl) (by kernel_rfl) (by kernel_rfl) (fun _ _ _ h => h) (Or.inl ⟨by rfl, ?_⟩) (by assumption) ?_
     ·intro w hSw
      (try dsimp only at hSw)
      go_simp
      try with_reducible rfl
     try simp only [Act.put, List.setIfInBounds_toArray, List.set_cons_zero, List.set_cons_succ]
     refine wpAnyH_take (i := 4) (oi := { dst := some 94, op := Op.move (Operand.tmp 7), type := 47, pos := "law.go:323", after := _, guard := some (3, true) }) (v := ?_) rfl (by kernel_rfl) (by kernel_rfl) (by kernel_rfl) (fun _ _ _ h => h) (Or.inl ⟨by rfl, ?_⟩) (by assumption) ?_
     rotate_left
     ·intro w hSw
      (try dsimp only at hSw)
      go_simp
      try with_reducible rfl
     try simp only [Act.put, List.setIfInBounds_toArray, List.set_cons_zero, List.set_cons_succ]
     refine wpAnyH_take (i := 6) (oi := { dst := some 96, op := Op.move (Operand.tmp 5), type := 47, pos := "law.go:323", after := _, guard := some (3, true) }) (v := ?_) rfl (by kernel_rfl) (by kernel_rfl) (by kernel_rfl) (fun _ _ _ h => h) (Or.inl ⟨by rfl, ?_⟩) (by assumption) ?_
     rotate_left
     ·intro w hSw
      (try dsimp only at hSw)
      go_simp
      try with_reducible rfl
     try simp only [Act.put, List.setIfInBounds_toArray, List.set_cons_zero, List.set_cons_succ]
     refine wpAnyH_ready (rs := [5]) (by kernel_rfl) (by simp) ?_
     refine AllReadyH.cons (o := { dst := some 95, op := Op.call { callee := Callee.value (Operand.func 44), args := #[Operand.tmp 94], argTypes := #[47] }, type := 81, pos := "law.go:323", after := _, guard := some (3, true) }) rfl (fun K hK => ?_) AllReadyH.nil
     go_simp
     go_at_call 44
     refine (HS2.out _ (bdrew W 1)).mono ?_
     rintro e1 W1 ⟨q1, r1, s1, rfl, g1, h1⟩
     first
      | refine hK.out _ _ ?_ (fun hHeld => ?_)
      | (go_wp2_with fail; refine hK.out _ _ ?_ (fun hHeld => ?_))
     ·exact (HKP.out _ (bthen (bdrew W 1) h1))
     clear hK K
     try simp only [Act.put, List.setIfInBounds_toArray, List.set_cons_zero, List.set_cons_succ]
     refine wpAnyH_ready (rs := [7]) (by kernel_rfl) (by simp) ?_
     refine AllReadyH.cons (o := { dst := some 97, op := Op.call { callee := Callee.value (Operand.func 44), args := #[Operand.tmp 96], argTypes := #[47] }, type := 81, pos := "law.go:323", after := _, guard := some (3, true) }) rfl (fun K hK => ?_) AllReadyH.nil
     go_simp
     go_at_call 44
     refine (HS1.out _ (bthen (bdrew W 1) h1)).mono ?_
     rintro e2 W2 ⟨q2, r2, s2, rfl, g2, h2⟩
     first
      | refine hK.out _ _ ?_ (fun hHeld => ?_)
      | (go_wp2_with fail; refine hK.out _ _ ?_ (fun hHeld => ?_))
     ·exact (HKP.out _ (bthen (bthen (bdrew W 1) h1) h2))
     clear hK K
     try simp only [Act.put, List.setIfInBounds_toArray, List.set_cons_zero, List.set_cons_succ]
     refine wpAnyH_ready (rs := [8]) (by kernel_rfl) (by simp) ?_
     refine AllReadyH.cons (o := { dst := some 98, op := Op.call { callee := Callee.value (Operand.func 45), args := #[Operand.tmp 95, Operand.tmp 97], argTypes := #[81, 81] }, type := 4, pos := "law.go:323", after := _, guard := some (3, true) }) rfl (fun K hK => ?_) AllReadyH.nil
     go_simp
     go_at_call 45
     refine (equalT_true (g1.below h2) g2).mono ?_
     rintro e3 W3 ⟨rfl, h3⟩
     first
      | refine hK.out _ _ ?_ (fun hHeld => ?_)
      | (go_wp2_with fail; refine hK.out _ _ ?_ (fun hHeld => ?_))
     ·exact (HKP.out _ (bthen (bthen (bthen (bdrew W 1) h1) h2) h3))
     clear hK K
     try simp only [Act.put, List.setIfInBounds_toArray, List.set_cons_zero, List.set_cons_succ]
     refine wpAnyH_take (i := 9) (oi := { dst := some 99, op := Op.pick (Operand.tmp 93) (Operand.tmp 98) (Operand.const (Value.bool false)), type := 4, pos := "law.go:323", after := _, guard := none }) (v := (.bool true)) rfl (by kernel_rfl) (by kernel_rfl) (by kernel_rfl) (fun _ _ _ h => h) (Or.inl ⟨by rfl, ?_⟩) (by assumption) ?_
     ·intro w hSw
      (try dsimp only at hSw)
      go_simp
      try with_reducible rfl
     try simp only [Act.put, List.setIfInBounds_toArray, List.set_cons_zero, List.set_cons_succ]
     refine wpAnyH_take (i := 10) (oi := { dst := some 100, op := Op.move (Operand.tmp 99), type := 4, pos := "law.go:323", after := _, guard := none }) (v := (.bool true)) rfl (by kernel_rfl) (by kernel_rfl) (by kernel_rfl) (fun _ _ _ h => h) (Or.inl ⟨by rfl, ?_⟩) (by assumption) ?_
     ·intro w hSw
      (try dsimp only at hSw)
      go_simp
      try with_reducible rfl
     try simp only [Act.put, List.setIfInBounds_toArray, List.set_cons_zero, List.set_cons_succ]
     refine wpAnyH_take (i := 11) (oi := { dst := some 101, op := Op.move (Operand.tmp 7), type := 47, pos := "law.go:323", after := _, guard := some (10, true) }) (v := ?_) rfl (by kernel_rfl) (by kernel_rfl) (by kernel_rfl) (fun _ _ _ h => h) (Or.inl ⟨by rfl, ?_⟩) (by assumption) ?_
     rotate_left
     ·intro w hSw
      (try dsimp only at hSw)
      go_simp
      try with_reducible rfl
     try simp only [Act.put, List.setIfInBounds_toArray, List.set_cons_zero, List.set_cons_succ]
     refine wpAnyH_take (i := 13) (oi := { dst := some 103, op := Op.move (Operand.tmp 5), type := 47, pos := "law.go:323", after := _, guard := some (10, true) }) (v := ?_) rfl (by kernel_rfl) (by kernel_rfl) (by kernel_rfl) (fun _ _ _ h => h) (Or.inl ⟨by rfl, ?_⟩) (by assumption) ?_
     rotate_left
     ·intro w hSw
      (try dsimp only at hSw)
      go_simp
      try with_reducible rfl
     try simp only [Act.put, List.setIfInBounds_toArray, List.set_cons_zero, List.set_cons_succ]
     refine wpAnyH_ready (rs := [12]) (by kernel_rfl) (by simp) ?_
     refine AllReadyH.cons (o := { dst := some 102, op := Op.call { callee := Callee.value (Operand.func 42), args := #[Operand.tmp 101], argTypes := #[47] }, type := 23, pos := "law.go:323", after := _, guard := some (10, true) }) rfl (fun K hK => ?_) AllReadyH.nil
     go_simp
     go_at_call 42
     refine (HT2.out _ (bthen (bthen (bthen (bdrew W 1) h1) h2) h3)).mono ?_
     rintro e4 W4 ⟨q4, r4, s4, rfl, g4, h4⟩
     first
      | refine hK.out _ _ ?_ (fun hHeld => ?_)
      | (go_wp2_with fail; refine hK.out _ _ ?_ (fun hHeld => ?_))
     ·exact (HKP.out _ (bthen (bthen (bthen (bthen (bdrew W 1) h1) h2) h3) h4))
     clear hK K
     try simp only [Act.put, List.setIfInBounds_toArray, List.set_cons_zero, List.set_cons_succ]
     refine wpAnyH_ready (rs := [14]) (by kernel_rfl) (by simp) ?_
     refine AllReadyH.cons (o := { dst := some 104, op := Op.call { callee := Callee.value (Operand.func 42), args := #[Operand.tmp 103], argTypes := #[47] }, type := 23, pos := "law.go:323", after := _, guard := some (10, true) }) rfl (fun K hK => ?_) AllReadyH.nil
     go_simp
     go_at_call 42
     refine (HT1.out _ (bthen (bthen (bthen (bthen (bdrew W 1) h1) h2) h3) h4)).mono ?_
     rintro e5 W5 ⟨q5, r5, s5, rfl, g5, h5⟩
     first
      | refine hK.out _ _ ?_ (fun hHeld => ?_)
      | (go_wp2_with fail; refine hK.out _ _ ?_ (fun hHeld => ?_))
     ·exact (HKP.out _ (bthen (bthen (bthen (bthen (bthen (bdrew W 1) h1) h2) h3) h4) h5))
     clear hK K
     try simp only [Act.put, List.setIfInBounds_toArray, List.set_cons_zero, List.set_cons_succ]
     refine wpAnyH_ready (rs := [15]) (by kernel_rfl) (by simp) ?_
     refine AllReadyH.cons (o := { dst := some 105, op := Op.call { callee := Callee.value (Operand.func 30), args := #[Operand.tmp 102, Operand.tmp 104], argTypes := #[23, 23] }, type := 4, pos := "law.go:323", after := _, guard := some (10, true) }) rfl (fun K hK => ?_) AllReadyH.nil
     go_simp
     go_at_call 30
     refine (eqTrs_any (g4.below h5) g5 rfl).mono ?_
     rintro e6 W6 ⟨rfl, h6⟩
     first
      | refine hK.out _ _ ?_ (fun hHeld => ?_)
      | (go_wp2_with fail; refine hK.out _ _ ?_ (fun hHeld => ?_))
     ·exact (HKP.out _ (bthen (bthen (bthen (bthen (bthen (bthen (bdrew W 1) h1) h2) h3) h4) h5) h6))
     clear hK K
     try simp only [Act.put, List.setIfInBounds_toArray, List.set_cons_zero, List.set_cons_succ]
     refine wpAnyH_take (i := 16) (oi := { dst := some 106, op := Op.pick (Operand.tmp 100) (Operand.tmp 105) (Operand.const (Value.bool false)), type := 4, pos := "law.go:323", after := _, guard := none }) (v := (.bool true)) rfl (by kernel_rfl) (by kernel_rfl) (by kernel_rfl) (fun _ _ _ h => h) (Or.inl ⟨by rfl, ?_⟩) (by assumption) ?_
     ·intro w hSw
      (try dsimp only at hSw)
      go_simp
      try with_reducible rfl
     try simp only [Act.put, List.setIfInBounds_toArray, List.set_cons_zero, List.set_cons_succ]
     refine wpAnyH_take (i := 17) (oi := { dst := some 107, op := Op.move (Operand.tmp 106), type := 4, pos := "law.go:323", after := _, guard := none }) (v := (.bool true)) rfl (by kernel_rfl) (by kernel_rfl) (by kernel_rfl) (fun _ _ _ h => h) (Or.inl ⟨by rfl, ?_⟩) (by assumption) ?_
     ·intro w hSw
      (try dsimp only at hSw)
      go_simp
      try with_reducible rfl
     try simp only [Act.put, List.setIfInBounds_toArray, List.set_cons_zero, List.set_cons_succ]
     refine wpAnyH_take (i := 18) (oi := { dst := some 108, op := Op.move (Operand.tmp 7), type := 47, pos := "law.go:323", after := _, guard := some (17, true) }) (v := ?_) rfl (by kernel_rfl) (by kernel_rfl) (by kernel_rfl) (fun _ _ _ h => h) (Or.inl ⟨by rfl, ?_⟩) (by assumption) ?_
     rotate_left
     ·intro w hSw
      (try dsimp only at hSw)
      go_simp
      try with_reducible rfl
     try simp only [Act.put, List.setIfInBounds_toArray, List.set_cons_zero, List.set_cons_succ]
     refine wpAnyH_take (i := 20) (oi := { dst := some 110, op := Op.move (Operand.tmp 5), type := 47, pos := "law.go:323", after := _, guard := some (17, true) }) (v := ?_) rfl (by kernel_rfl) (by kernel_rfl) (by kernel_rfl) (fun _ _ _ h => h) (Or.inl ⟨by rfl, ?_⟩) (by assumption) ?_
     rotate_left
     ·intro w hSw
      (try dsimp only at hSw)
      go_simp
      try with_reducible rfl
     try simp only [Act.put, List.setIfInBounds_toArray, List.set_cons_zero, List.set_cons_succ]
     refine wpAnyH_ready (rs := [19]) (by kernel_rfl) (by simp) ?_
     refine AllReadyH.cons (o := { dst := some 109, op := Op.call { callee := Callee.value (Operand.func 50), args := #[Operand.tmp 108], argTypes := #[47] }, type := 23, pos := "law.go:323", after := _, guard := some (17, true) }) rfl (fun K hK => ?_) AllReadyH.nil
     go_simp
     go_at_call 50
     refine (HV2.out _ (bthen (bthen (bthen (bthen (bthen (bthen (bdrew W 1) h1) h2) h3) h4) h5) h6)).mono ?_
     rintro e7 W7 ⟨q7, r7, s7, rfl, g7, h7⟩
     first
      | refine hK.out _ _ ?_ (fun hHeld => ?_)
      | (go_wp2_with fail; refine hK.out _ _ ?_ (fun hHeld => ?_))
     ·exact (HKP.out _ (bthen (bthen (bthen (bthen (bthen (bthen (bthen (bdrew W 1) h1) h2) h3) h4) h5) h6) h7))
     clear hK K
     try simp only [Act.put, List.setIfInBounds_toArray, List.set_cons_zero, List.set_cons_succ]
     refine wpAnyH_ready (rs := [21]) (by kernel_rfl) (by simp) ?_
     refine AllReadyH.cons (o := { dst := some 111, op := Op.call { callee := Callee.value (Operand.func 50), args := #[Operand.tmp 110], argTypes := #[47] }, type := 23, pos := "law.go:323", after := _, guard := some (17, true) }) rfl (fun K hK => ?_) AllReadyH.nil
     go_simp
     go_at_call 50
     refine (HV1.out _ (bthen (bthen (bthen (bthen (bthen (bthen (bthen (bdrew W 1) h1) h2) h3) h4) h5) h6) h7)).mono ?_
     rintro e8 W8 ⟨q8, r8, s8, rfl, g8, h8⟩
     first
      | refine hK.out _ _ ?_ (fun hHeld => ?_)
      | (go_wp2_with fail; refine hK.out _ _ ?_ (fun hHeld => ?_))
     ·exact (HKP.out _ (bthen (bthen (bthen (bthen (bthen (bthen (bthen (bthen (bdrew W 1) h1) h2) h3) h4) h5) h6) h7) h8))
     clear hK K
     try simp only [Act.put, List.setIfInBounds_toArray, List.set_cons_zero, List.set_cons_succ]
     refine wpAnyH_ready (rs := [22]) (by kernel_rfl) (by simp) ?_
     refine AllReadyH.cons (o := { dst := some 112, op := Op.call { callee := Callee.value (Operand.func 30), args := #[Operand.tmp 109, Operand.tmp 111], argTypes := #[23, 23] }, type := 4, pos := "law.go:323", after := _, guard := some (17, true) }) rfl (fun K hK => ?_) AllReadyH.nil
     go_simp
     go_at_call 30
     refine (eqNs_true (g7.below h8) g8).mono ?_
     rintro e9 W9 ⟨rfl, h9⟩
     first
      | refine hK.out _ _ ?_ (fun hHeld => ?_)
      | (go_wp2_with fail; refine hK.out _ _ ?_ (fun hHeld => ?_))
     ·exact (HKP.out _ (bthen (bthen (bthen (bthen (bthen (bthen (bthen (bthen (bthen (bdrew W 1) h1) h2) h3) h4) h5) h6) h7) h8) h9))
     clear hK K
     try simp only [Act.put, List.setIfInBounds_toArray, List.set_cons_zero, List.set_cons_succ]
     refine wpAnyH_take (i := 23) (oi := { dst := some 113, op := Op.pick (Operand.tmp 107) (Operand.tmp 112) (Operand.const (Value.bool false)), type := 4, pos := "law.go:323", after := _, guard := none }) (v := (.bool true)) rfl (by kernel_rfl) (by kernel_rfl) (by kernel_rfl) (fun _ _ _ h => h) (Or.inl ⟨by rfl, ?_⟩) (by assumption) ?_
     ·intro w hSw
      (try dsimp only at hSw)
      go_simp
      try with_reducible rfl
     try simp only [Act.put, List.setIfInBounds_toArray, List.set_cons_zero, List.set_cons_succ]
     refine wpAnyH_take (i := 24) (oi := { dst := some 114, op := Op.move (Operand.tmp 113), type := 4, pos := "law.go:323", after := _, guard := none }) (v := (.bool true)) rfl (by kernel_rfl) (by kernel_rfl) (by kernel_rfl) (fun _ _ _ h => h) (Or.inl ⟨by rfl, ?_⟩) (by assumption) ?_
     ·intro w hSw
      (try dsimp only at hSw)
      go_simp
      try with_reducible rfl
     try simp only [Act.put, List.setIfInBounds_toArray, List.set_cons_zero, List.set_cons_succ]
     refine wpAnyH_take (i := 25) (oi := { dst := some 115, op := Op.move (Operand.tmp 5), type := 47, pos := "law.go:323", after := _, guard := some (24, true) }) (v := ?_) rfl (by kernel_rfl) (by kernel_rfl) (by kernel_rfl) (fun _ _ _ h => h) (Or.inl ⟨by rfl, ?_⟩) (by assumption) ?_
     rotate_left
     ·intro w hSw
      (try dsimp only at hSw)
      go_simp
      try with_reducible rfl
     try simp only [Act.put, List.setIfInBounds_toArray, List.set_cons_zero, List.set_cons_succ]
     refine wpAnyH_take (i := 27) (oi := { dst := some 117, op := Op.fieldAddr 55 (Operand.tmp 3) 0, type := 0, pos := "law.go:323", after := _, guard := some (24, true) }) (v := ?_) rfl (by kernel_rfl) (by kernel_rfl) (by kernel_rfl) (fun _ _ _ h => h) (Or.inl ⟨by rfl, ?_⟩) (by assumption) ?_
     rotate_left
     ·intro w hSw
      (try dsimp only at hSw)
      go_simp
      try with_reducible rfl
     try simp only [Act.put, List.setIfInBounds_toArray, List.set_cons_zero, List.set_cons_succ]
     refine wpAnyH_take (i := 28) (oi := { dst := some 118, op := Op.load 3 (Operand.tmp 117), type := 3, pos := "law.go:323", after := _, guard := some (24, true) }) (v := ?_) rfl (by kernel_rfl) (by kernel_rfl) (by kernel_rfl) (fun _ _ _ h => h) (Or.inl ⟨by rfl, ?_⟩) (by assumption) ?_
     rotate_left
     ·intro w hSw
      (try dsimp only at hSw)
      go_simp
      try with_reducible rfl
     try simp only [Act.put, List.setIfInBounds_toArray, List.set_cons_zero, List.set_cons_succ]
     refine wpAnyH_ready (rs := [26]) (by kernel_rfl) (by simp) ?_
     refine AllReadyH.cons (o := { dst := some 116, op := Op.call { callee := Callee.value (Operand.func 40), args := #[Operand.tmp 115], argTypes := #[47] }, type := 3, pos := "law.go:323", after := _, guard := some (24, true) }) rfl (fun K hK => ?_) AllReadyH.nil
     go_simp
     go_at_call 40
     refine (HI1.out _ (bthen (bthen (bthen (bthen (bthen (bthen (bthen (bthen (bthen (bdrew W 1) h1) h2) h3) h4) h5) h6) h7) h8) h9)).mono ?_
     rintro ea Wa ⟨rfl, rfl⟩
     first
      | refine hK.out _ _ ?_ (fun hHeld => ?_)
      | (go_wp2_with fail; refine hK.out _ _ ?_ (fun hHeld => ?_))
     ·exact (HKP.out _ (bthen (bthen (bthen (bthen (bthen (bthen (bthen (bthen (bthen (bdrew W 1) h1) h2) h3) h4) h5) h6) h7) h8) h9))
     clear hK K
     try simp only [Act.put, List.setIfInBounds_toArray, List.set_cons_zero, List.set_cons_succ]
     refine wpAnyH_take (i := 29) (oi := { dst := some 119, op := Op.binOp BinOp.eql 3 (Operand.tmp 116) (Operand.tmp 118) 3, type := 4, pos := "law.go:323", after := _, guard := some (24, true) }) (v := (.bool true)) rfl (by kernel_rfl) (by kernel_rfl) (by kernel_rfl) (fun _ _ _ h => h) (Or.inl ⟨by rfl, ?_⟩) (by assumption) ?_
     ·intro w hSw
      (try dsimp only at hSw)
      go_simp
      try (first | with_reducible rfl | simp)
     try simp only [Act.put, List.setIfInBounds_toArray, List.set_cons_zero, List.set_cons_succ]
     refine wpAnyH_take (i := 30) (oi := { dst := some 120, op := Op.pick (Operand.tmp 114) (Operand.tmp 119) (Operand.const (Value.bool false)), type := 4, pos := "law.go:323", after := _, guard := none }) (v := (.bool true)) rfl (by kernel_rfl) (by kernel_rfl) (by kernel_rfl) (fun _ _ _ h => h) (Or.inl ⟨by rfl, ?_⟩) (by assumption) ?_
     ·intro w hSw
      (try dsimp only at hSw)
      go_simp
      try with_reducible rfl
     try simp only [Act.put, List.setIfInBounds_toArray, List.set_cons_zero, List.set_cons_succ]
     refine wpAnyH_take (i := 31) (oi := { dst := some 121, op := Op.move (Operand.tmp 120), type := 4, pos := "law.go:323", after := _, guard := none }) (v := (.bool true)) rfl (by kernel_rfl) (by kernel_rfl) (by kernel_rfl) (fun _ _ _ h => h) (Or.inl ⟨by rfl, ?_⟩) (by assumption) ?_
     ·intro w hSw
      (try dsimp only at hSw)
      go_simp
      try with_reducible rfl
     try simp only [Act.put, List.setIfInBounds_toArray, List.set_cons_zero, List.set_cons_succ]
     refine wpAnyH_ready (rs := [32]) (by kernel_rfl) (by simp) ?_
     refine AllReadyH.cons (o := { dst := some 122, op := Op.call { callee := Callee.value (Operand.func 15), args := #[], argTypes := #[] }, type := 4, pos := "law.go:323", after := _, guard := some (31, true) }) rfl (fun K hK => ?_) AllReadyH.nil
     go_simp
     go_at_call 15
     refine (HAW.out _ (bthen (bthen (bthen (bthen (bthen (bthen (bthen (bthen (bthen (bdrew W 1) h1) h2) h3) h4) h5) h6) h7) h8) h9)).mono ?_
     rintro eb Wb ⟨rfl, hb⟩
     first
      | refine hK.out _ _ ?_ (fun hHeld => ?_)
      | (go_wp2_with fail; refine hK.out _ _ ?_ (fun hHeld => ?_))
     ·exact (HKP.out _ (bthen (bthen (bthen (bthen (bthen (bthen (bthen (bthen (bthen (bthen (bdrew W 1) h1) h2) h3) h4) h5) h6) h7) h8) h9) hb))
     clear hK K
     try simp only [Act.put, List.setIfInBounds_toArray, List.set_cons_zero, List.set_cons_succ]
     refine wpAnyH_take (i := 33) (oi := { dst := some 123, op := Op.pick (Operand.tmp 121) (Operand.tmp 122) (Operand.const (Value.bool false)), type := 4, pos := "law.go:323", after := _, guard := none }) (v := (.bool true)) rfl (by kernel_rfl) (by kernel_rfl) (by kernel_rfl) (fun _ _ _ h => h) (Or.inl ⟨by rfl, ?_⟩) (by assumption) ?_
     ·intro w hSw
      (try dsimp only at hSw)
      go_simp
      try with_reducible rfl
     try simp only [Act.put, List.setIfInBounds_toArray, List.set_cons_zero, List.set_cons_succ]
     refine wpAnyH_take (i := 34) (oi := { dst := some 4, op := Op.assign (Operand.tmp 123), type := 4, pos := "law.go:323", after := _, guard := none }) (v := ?_) rfl (by kernel_rfl) (by kernel_rfl) (by kernel_rfl) (fun _ _ _ h => h) (Or.inl ⟨by rfl, ?_⟩) (by assumption) ?_
     rotate_left
     ·intro w hSw
      (try dsimp only at hSw)
      go_simp
      try with_reducible rfl
     try simp only [Act.put, List.setIfInBounds_toArray, List.set_cons_zero, List.set_cons_succ]
     refine wpAnyH_done (by kernel_rfl) ?_ _
     clear hHeld
     go_wp2
     go_ret
     exact ⟨rfl, bthen HBW.out (bthen (bthen (bthen (bthen (bthen (bthen (bthen (bthen (bthen (bthen (bdrew W 1) h1) h2) h3) h4) h5) h6) h7) h8) h9) hb)⟩
    | some gc =>
     go_wp2_with fail
     refine HGE.out.mono ?_
     rintro e w6 ⟨gp, gn, gd, gq, gmm, gf, rfl, _, _, hb6⟩
     have HB56 : Hid (Below w5.heap.size w5 w6) := hide (HBV.out.trans (hb6.mono HBV.out.size))
     clear hb6 x0 x1 x2
     unfold cmV
     go_upto_region 15 with fail
     obtain ⟨W, hW⟩ : ∃ X, w6.alloc (.cells #[.int .i64 gc.k, .int .i64 gc.se, .int .i64 gc.sq, .int .i64 gc.a, .slice gp gn gd, .slice gq gmm gf] 25) = X := ⟨_, rfl⟩
     have hbW : Below w6.heap.size w6 W := by rw [← hW]; exact (Below.refl _ _).alloc (Nat.le_refl _) _
     rw [hW]
     have HB5W : Hid (Below w5.heap.size w5 W) := hide (HB56.out.trans (hbW.mono HB56.out.size))
     have HBW : Hid (Below w.heap.size w W) := hide (HB5.out.trans (HB5W.out.mono HB5.out.size))
     have HMW := hide (HM5.out.below HB5W.out)
     have HRE := hide (HR5.out.below HB5W.out)
     have HI1 : Hid (∀ U, Below W.heap.size W U → Calls Tryz.prog 40 #[.pointer (some ⟨gm, 0, none⟩)] U fun e w' => e = .returned (.int .i64 ei) ∧ w' = U) := hide fun U hU => by
      have h1 := mindex_any (HMW.out.below hU)
      rwa [HI5.out.1] at h1
     have HI2 : Hid (∀ U, Below W.heap.size W U → Calls Tryz.prog 41 #[.pointer (some ⟨gm, 0, none⟩)] U fun e w' => e = .returned (.int .i64 et) ∧ w' = U) := hide fun U hU => by
      have h1 := mterm_any (HMW.out.below hU)
      rwa [HI5.out.2] at h1
     have HAW := hide (fun U (hU : Below W.heap.size W U) => mawake_any (HE.out.below (HBW.out.trans (hU.mono HBW.out.size))))
     have HKP : Hid (∀ U, Below W.heap.size W U → U.cell? ⟨b, 0, none⟩ = some (.int .i64 ei) ∧ U.cell? ⟨b, 1, none⟩ = some (.int .i64 et)) := hide fun U hU => ⟨(HRE.out.below hU).z.1, (HRE.out.below hU).z.2.1⟩
     clear hW hbW
     refine wp_region_held_drew (S := (fun U => U.cell? ⟨b, 0, none⟩ = some (.int .i64 ei) ∧ U.cell? ⟨b, 1, none⟩ = some (.int .i64 et))) (by kernel_rfl) (HKP.out _ (bdrew W 1)) (fun hHeld => ?_)
     refine wpAnyH_take (i := 0) (oi := { dst := some 124, op := Op.move (Operand.tmp 5), type := 47, pos := "law.go:325", after := #[], guard := none }) (v := ?_) rfl (by kernel_rfl) (by kernel_rfl) (by kernel_rfl) (fun _ _ _ h => h) (Or.inl ⟨by rfl, ?_⟩) (by assumption) ?_
     rotate_left
     ·intro w hSw
      (try dsimp only at hSw)
      go_simp
      try with_reducible rfl
     try simp only [Act.put, List.setIfInBounds_toArray, List.set_cons_zero, List.set_cons_succ]
     refine wpAnyH_take (i := 2) (oi := { dst := some 126, op := Op.fieldAddr 55 (Operand.tmp 3) 0, type := 0, pos := "law.go:325", after := #[], guard := none }) (v := ?_) rfl (by kernel_rfl) (by kernel_rfl) (by kernel_rfl) (fun _ _ _ h => h) (Or.inl ⟨by rfl, ?_⟩) (by assumption) ?_
     rotate_left
     ·intro w hSw
      (try dsimp only at hSw)
      go_simp
      try with_reducible rfl
     try simp only [Act.put, List.setIfInBounds_toArray, List.set_cons_zero, List.set_cons_succ]
     refine wpAnyH_take (i := 3) (oi := { dst := some 127, op := Op.load 3 (Operand.tmp 126), type := 3, pos := "law.go:325", after := _, guard := none }) (v := ?_) rfl (by kernel_rfl) (by kernel_rfl) (by kernel_rfl) (fun _ _ _ h => h) (Or.inl ⟨by rfl, ?_⟩) (by assumption) ?_
     rotate_left
     ·intro w hSw
      (try dsimp only at hSw)
      go_simp
      try with_reducible rfl
     try simp only [Act.put, List.setIfInBounds_toArray, List.set_cons_zero, List.set_cons_succ]
     refine wpAnyH_ready (rs := [1]) (by kernel_rfl) (by simp) ?_
     refine AllReadyH.cons (o := { dst := some 125, op := Op.call { callee := Callee.value (Operand.func 40), args := #[Operand.tmp 124], argTypes := #[47] }, type := 3, pos := "law.go:325", after := _, guard := none }) rfl (fun K hK => ?_) AllReadyH.nil
     go_simp
     go_at_call 40
     refine (HI1.out _ (bdrew W 1)).mono ?_
     rintro e1 W1 ⟨rfl, rfl⟩
     first
      | refine hK.out _ _ ?_ (fun hHeld => ?_)
      | (go_wp2_with fail; refine hK.out _ _ ?_ (fun hHeld => ?_))
     ·exact (HKP.out _ (bdrew W 1))
     clear hK K
     try simp only [Act.put, List.setIfInBounds_toArray, List.set_cons_zero, List.set_cons_succ]
     refine wpAnyH_take (i := 4) (oi := { dst := some 128, op := Op.binOp BinOp.eql 3 (Operand.tmp 125) (Operand.tmp 127) 3, type := 4, pos := "law.go:325", after := _, guard := none }) (v := (.bool true)) rfl (by kernel_rfl) (by kernel_rfl) (by kernel_rfl) (fun _ _ _ h => h) (Or.inl ⟨by rfl, ?_⟩) (by assumption) ?_
     ·intro w hSw
      (try dsimp only at hSw)
      go_simp
      try (first | with_reducible rfl | simp)
     try simp only [Act.put, List.setIfInBounds_toArray, List.set_cons_zero, List.set_cons_succ]
     refine wpAnyH_take (i := 5) (oi := { dst := some 129, op := Op.move (Operand.tmp 128), type := 4, pos := "law.go:325", after := _, guard := none }) (v := (.bool true)) rfl (by kernel_rfl) (by kernel_rfl) (by kernel_rfl) (fun _ _ _ h => h) (Or.inl ⟨by rfl, ?_⟩) (by assumption) ?_
     ·intro w hSw
      (try dsimp only at hSw)
      go_simp
      try with_reducible rfl
     try simp only [Act.put, List.setIfInBounds_toArray, List.set_cons_zero, List.set_cons_succ]
     refine wpAnyH_take (i := 6) (oi := { dst := some 130, op := Op.move (Operand.tmp 5), type := 47, pos := "law.go:325", after := _, guard := some (5, true) }) (v := ?_) rfl (by kernel_rfl) (by kernel_rfl) (by kernel_rfl) (fun _ _ _ h => h) (Or.inl ⟨by rfl, ?_⟩) (by assumption) ?_
     rotate_left
     ·intro w hSw
      (try dsimp only at hSw)
      go_simp
      try with_reducible rfl
     try simp only [Act.put, List.setIfInBounds_toArray, List.set_cons_zero, List.set_cons_succ]
     refine wpAnyH_take (i := 8) (oi := { dst := some 132, op := Op.fieldAddr 55 (Operand.tmp 3) 1, type := 0, pos := "law.go:325", after := _, guard := some (5, true) }) (v := ?_) rfl (by kernel_rfl) (by kernel_rfl) (by kernel_rfl) (fun _ _ _ h => h) (Or.inl ⟨by rfl, ?_⟩) (by assumption) ?_
     rotate_left
     ·intro w hSw
      (try dsimp only at hSw)
      go_simp
      try with_reducible rfl
     try simp only [Act.put, List.setIfInBounds_toArray, List.set_cons_zero, List.set_cons_succ]
     refine wpAnyH_take (i := 9) (oi := { dst := some 133, op := Op.load 3 (Operand.tmp 132), type := 3, pos := "law.go:325", after := _, guard := some (5, true) }) (v := ?_) rfl (by kernel_rfl) (by kernel_rfl) (by kernel_rfl) (fun _ _ _ h => h) (Or.inl ⟨by rfl, ?_⟩) (by assumption) ?_
     rotate_left
     ·intro w hSw
      (try dsimp only at hSw)
      go_simp
      try with_reducible rfl
     try simp only [Act.put, List.setIfInBounds_toArray, List.set_cons_zero, List.set_cons_succ]
     refine wpAnyH_ready (rs := [7]) (by kernel_rfl) (by simp) ?_
     refine AllReadyH.cons (o := { dst := some 131, op := Op.call { callee := Callee.value (Operand.func 41), args := #[Operand.tmp 130], argTypes := #[47] }, type := 3, pos := "law.go:325", after := _, guard := some (5, true) }) rfl (fun K hK => ?_) AllReadyH.nil
     go_simp
     go_at_call 41
     refine (HI2.out _ (bdrew W 1)).mono ?_
     rintro e2 W2 ⟨rfl, rfl⟩
     first
      | refine hK.out _ _ ?_ (fun hHeld => ?_)
      | (go_wp2_with fail; refine hK.out _ _ ?_ (fun hHeld => ?_))
     ·exact (HKP.out _ (bdrew W 1))
     clear hK K
     try simp only [Act.put, List.setIfInBounds_toArray, List.set_cons_zero, List.set_cons_succ]
     refine wpAnyH_take (i := 10) (oi := { dst := some 134, op := Op.binOp BinOp.eql 3 (Operand.tmp 131) (Operand.tmp 133) 3, type := 4, pos := "law.go:325", after := _, guard := some (5, true) }) (v := (.bool true)) rfl (by kernel_rfl) (by kernel_rfl) (by kernel_rfl) (fun _ _ _ h => h) (Or.inl ⟨by rfl, ?_⟩) (by assumption) ?_
     ·intro w hSw
      (try dsimp only at hSw)
      go_simp
      try (first | with_reducible rfl | simp)
     try simp only [Act.put, List.setIfInBounds_toArray, List.set_cons_zero, List.set_cons_succ]
     refine wpAnyH_take (i := 11) (oi := { dst := some 135, op := Op.pick (Operand.tmp 129) (Operand.tmp 134) (Operand.const (Value.bool false)), type := 4, pos := "law.go:325", after := _, guard := none }) (v := (.bool true)) rfl (by kernel_rfl) (by kernel_rfl) (by kernel_rfl) (fun _ _ _ h => h) (Or.inl ⟨by rfl, ?_⟩) (by assumption) ?_
     ·intro w hSw
      (try dsimp only at hSw)
      go_simp
      try with_reducible rfl
     try simp only [Act.put, List.setIfInBounds_toArray, List.set_cons_zero, List.set_cons_succ]
     refine wpAnyH_take (i := 12) (oi := { dst := some 136, op := Op.move (Operand.tmp 135), type := 4, pos := "law.go:325", after := _, guard := none }) (v := (.bool true)) rfl (by kernel_rfl) (by kernel_rfl) (by kernel_rfl) (fun _ _ _ h => h) (Or.inl ⟨by rfl, ?_⟩) (by assumption) ?_
     ·intro w hSw
      (try dsimp only at hSw)
      go_simp
      try with_reducible rfl
     try simp only [Act.put, List.setIfInBounds_toArray, List.set_cons_zero, List.set_cons_succ]
     refine wpAnyH_ready (rs := [13]) (by kernel_rfl) (by simp) ?_
     refine AllReadyH.cons (o := { dst := some 137, op := Op.call { callee := Callee.value (Operand.func 15), args := #[], argTypes := #[] }, type := 4, pos := "law.go:325", after := _, guard := some (12, true) }) rfl (fun K hK => ?_) AllReadyH.nil
     go_simp
     go_at_call 15
     refine (HAW.out _ (bdrew W 1)).mono ?_
     rintro e3 W3 ⟨rfl, h3⟩
     first
      | refine hK.out _ _ ?_ (fun hHeld => ?_)
      | (go_wp2_with fail; refine hK.out _ _ ?_ (fun hHeld => ?_))
     ·exact (HKP.out _ ((bdrew W 1).trans h3))
     clear hK K
     try simp only [Act.put, List.setIfInBounds_toArray, List.set_cons_zero, List.set_cons_succ]
     refine wpAnyH_take (i := 14) (oi := { dst := some 138, op := Op.pick (Operand.tmp 136) (Operand.tmp 137) (Operand.const (Value.bool false)), type := 4, pos := "law.go:325", after := _, guard := none }) (v := (.bool true)) rfl (by kernel_rfl) (by kernel_rfl) (by kernel_rfl) (fun _ _ _ h => h) (Or.inl ⟨by rfl, ?_⟩) (by assumption) ?_
     ·intro w hSw
      (try dsimp only at hSw)
      go_simp
      try with_reducible rfl
     try simp only [Act.put, List.setIfInBounds_toArray, List.set_cons_zero, List.set_cons_succ]
     refine wpAnyH_take (i := 15) (oi := { dst := some 4, op := Op.assign (Operand.tmp 138), type := 4, pos := "law.go:325", after := _, guard := none }) (v := ?_) rfl (by kernel_rfl) (by kernel_rfl) (by kernel_rfl) (fun _ _ _ h => h) (Or.inl ⟨by rfl, ?_⟩) (by assumption) ?_
     rotate_left
     ·intro w hSw
      (try dsimp only at hSw)
      go_simp
      try with_reducible rfl
     try simp only [Act.put, List.setIfInBounds_toArray, List.set_cons_zero, List.set_cons_succ]
     refine wpAnyH_done (by kernel_rfl) ?_ _
     clear hHeld
     go_wp2
     go_ret
     exact ⟨rfl, HBW.out.trans (((bdrew W 1).trans h3).mono HBW.out.size)⟩
end Go.Proofs.YtionbmlicmibgaaGreatDoor
namespace Go.Proofs.YtionbmlicmibgaaGreatDoor.machineRefused
open Go.ChangeShapes Go.WideShapes Go.ChangeAt Go.RowKit
open Go.ChangeMaps (open_string shut_string)
set_option linter.unusedVariables false

theorem laidOut : laidOutB Tryz.prog = true := by kernel_rfl

set_option maxRecDepth 100000 in
theorem reads (os : Os) {H : Type} (enc : TypeId × Value → H) : ∃ places, DataW.whole enc Tryz.prog ((laidWorld os).forCall (fun _ _ => 0) ⟨#[], #[.slice none 0 0, .agg #[.int .i64 0, .int .i64 0, .slice none 0 0]], []⟩).memory Tryz.f12.params.toList Rows.machineRefusedSpec.vars false (#[.slice none 0 0, .agg #[.int .i64 0, .int .i64 0, .slice none 0 0]] : Array Value).toList 8 = some ([.nil, .agg [.lit (.int .i64 0), .lit (.int .i64 0), .nil]], [], places) :=
 ⟨[], by kernel_rfl⟩
set_option maxRecDepth 100000 in
theorem lifted (os : Os) (started : os.Started) (H : Type) (enc : TypeId × Value → H) (F : Stop.Interp) :
  ReturnsInHanded {} Tryz.checked os 12 .any ((Rows.OpenSpec.upto Rows.machineRefusedSpec).preRow enc Tryz.prog Tryz.f12 Rows.machineRefusedUptoRow.domain false Rows.machineRefusedUptoRow.laid) (((Rows.OpenSpec.upto Rows.machineRefusedSpec).at F).post enc Tryz.prog Tryz.f12 false true false false) := by
 obtain ⟨places, hx⟩ := reads os enc
 refine returnsInHanded_of_row (C := Tryz.checked) (s := Rows.OpenSpec.upto Rows.machineRefusedSpec) Tryz.own started (by kernel_rfl) Tryz.func12
  (witness_row_at (enc := enc) (C := Tryz.checked) false (laidWorld os) #[.slice none 0 0, .agg #[.int .i64 0, .int .i64 0, .slice none 0 0]] rfl (by kernel_rfl) (by kernel_rfl) (by kernel_rfl)
   (OpenSpec.preRow_of_cond 8 hx (by kernel_rfl) (fun k hk => by cases hk; kernel_rfl) (by kernel_rfl) (laidWorld_met os _))) ?_
 intro W base args ds gs before hval0 hW _ hcond hsz0 hL _ _
 have hk := hcond _ rfl
 have hErr := errT_of_laid hL
 have hval : ∀ (j : Nat) t v, Tryz.f12.params[j]? = some t → args[j]? = some v → Value.okWide Tryz.prog W .any base t v := hval0
 have hW' := hW
 obtain ⟨p, q, hA0, hV, rfl, hfz, hnd⟩ := hW
 have hA : DataW.TrodAll enc Tryz.prog W 0 (fun _ => true) true Tryz.f12.params.toList args.toList ds p := hA0
 rw [Tryz.params12] at hA hval
 obtain ⟨v0, vs0, d0, ds0, p0, q0, hargs, rfl, rfl, h0, r0⟩ := trodAll_cons hA
 obtain ⟨v1, vs1, d1, ds1, p1, q1, rfl, rfl, rfl, h1, r1⟩ := trodAll_cons r0
 obtain ⟨rfl, rfl, rfl⟩ := trodAll_nil r1
 obtain rfl : args = #[v0, v1] := by cases args; simp_all
 obtain ⟨rfl, rfl⟩ := trodVars_none hV
 obtain ⟨a0, len0, cap0, rfl⟩ := okWide_slice Tryz.underlying45 (hval 0 45 v0 rfl rfl)
 have k0 := h0
 have lt0 : ∀ x ∈ p0, x.block < W.heap.size := by obtain ⟨m, hm⟩ := k0; exact DataW.trod_lt m _ _ _ hm
 have k1 := h1
 have lt1 : ∀ x ∈ p1, x.block < W.heap.size := by obtain ⟨m, hm⟩ := k1; exact DataW.trod_lt m _ _ _ hm
 obtain ⟨D0, hl0, hD0, hk0⟩ := dms_of_arg h0
 have hb0 : Rows.uptoBulk d0 ≤ 1048576 := by
  have h : Rows.uptoBulkAll _ ≤ 1048576 := of_decide_eq_true hk
  exact Nat.le_trans (bulk_part (by simp)) h
 obtain ⟨ei1, et1, pe1, ne1, ce1, l1, hv1, hb1, fi1, ft1⟩ := ent_of_arg (hval 1 55 v1 rfl rfl) h1
 obtain rfl := hv1
 clear hA0 hval0
 refine (lawMRef_any hErr hD0 (fun d hd => Nat.le_trans (hk0 d hd) hb0) hb1 fi1 ft1).mono fun e W' ⟨he, bel⟩ => ?_
 subst he
 exact ⟨_, rfl, _, _, _, [], _, [], hW', trodAll_mk1 (shut_bool Tryz.underlying4 _), (trodAll_cons_mk (Below.trod laidOut (by kernel_rfl) (of_decide_eq_true (by kernel_rfl)) k0 bel lt0) (trodAll_cons_mk (Below.trod laidOut (by kernel_rfl) (of_decide_eq_true (by kernel_rfl)) k1 bel lt1) trodAll_mk0)), rfl, bel.frame _, fun h => by cases h⟩

set_option maxHeartbeats 16000000 in
theorem cl : joinedFacts Tryz.pinned.checked.prog 12 Tryz.f12 Rows.machineRefusedSpec Rows.machineRefusedUptoRow = true := by
 unfold joinedFacts
 simp only [Bool.and_eq_true]
 repeat' apply And.intro
 all_goals (as_aux_lemma => kernel_rfl)
theorem fnm : Tryz.pinned.checked.prog.funcNamed Rows.machineRefusedUptoRow.func = some 12 := by kernel_rfl
theorem inst : Tryz.f12.isInstance Tryz.pinned.checked.prog Rows.machineRefusedUptoRow.origin Rows.machineRefusedUptoRow.targs := of_decide_eq_true (by kernel_rfl)
theorem wr : Tryz.f12.isWrapper Tryz.pinned.checked.prog Rows.machineRefusedUptoRow.wrapper Rows.machineRefusedUptoRow.mainSum := by unfold Func.isWrapper; first | (rw [if_pos (by decide +kernel)]; kernel_rfl) | (rw [if_neg (by decide +kernel)]; exact ⟨rfl, rfl⟩)
theorem over : Rows.MachineRefusedUptoSaid :=
 OpenClaim.holds_of_cond 12 Tryz.f12 rfl rfl rfl rfl rfl rfl rfl ⟨rfl, rfl, rfl, rfl, rfl⟩ rfl rfl rfl rfl rfl fnm Tryz.func12 cl inst wr (fun os started H enc _ F => by rw [OpenClaim.pre_eq_preRow]; exact lifted os started H enc F)
theorem named : Tryz.prog.funcNamed "spandrel/spandrellaw09.MachineRefused" = some 12 := by kernel_rfl
theorem noStand : ∀ t ∈ [45, 55], Tryz.prog.wantsStandIn t = false := by
 intro t ht
 simp only [List.mem_cons, List.not_mem_nil, or_false] at ht
 rcases ht with rfl | rfl <;> kernel_rfl

theorem proved : Rows.MachineRefusedUptoCardSaid :=
 Claim7.holds_tied_plain_at .later [] [.handle] true (true, "73e4509f8480c2613f465c6520d6329ec038b933e0a1ed9711b57278fe54956a") true
  over (fun _ h => by cases h) (by kernel_rfl) (fun _ h => by cases h) machineRefusedUpto_row_tie rfl ⟨rfl, rfl⟩ (by kernel_rfl) rfl
  (fun f fn hf hfn => by
   obtain rfl : f = 12 := Option.some.inj (named.symm.trans hf) |>.symm
   obtain rfl : fn = Tryz.f12 := (Option.some.inj (Tryz.func12.symm.trans hfn)).symm
   exact ⟨by kernel_rfl, fun j t ht => by
    rw [Tryz.params12] at ht
    exact noStand t (by
     have := Array.mem_of_getElem? ht
     simpa using this)⟩)
  (by kernel_rfl)
end Go.Proofs.YtionbmlicmibgaaGreatDoor.machineRefused
