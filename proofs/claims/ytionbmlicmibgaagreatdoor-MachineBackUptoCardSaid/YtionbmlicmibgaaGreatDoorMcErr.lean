import Derived.Test.YtionbmlicmibgaaGreatDoorMcGetG
import Derived.LaidEql
import Derived.Stop.Asserts
import Derived.RowKitTokens
namespace Go.Proofs.YtionbmlicmibgaaGreatDoor
set_option linter.unusedVariables false
set_option linter.unusedSimpArgs false
open Go.RowKit Go.Extern.Stop Go.Stop Go.Extern
theorem lt_of_cell' {w : World} {a : Addr} {v : Value} (h : w.cell? a = some v) : a.block < w.heap.size := by
 rcases Nat.lt_or_ge a.block w.heap.size with h1 | h1
 ·exact h1
 ·simp [World.cell?, Array.getElem?_eq_none h1] at h
theorem ea_nil (t : Value) (w : World) : Calls Tryz.prog 112 #[.nilIface, t] w fun e w' => e = .returned (.bool false) ∧ w' = w := by
 go_enter Tryz.func112, Tryz.ntmps112
 go_wp2
 go_ret
 exact ⟨rfl, rfl⟩
theorem ea_valueOfP (t : Addr) (w : World) : (ReflectliteValue.unpack (.iface 179 (.pointer (some t)))).run Tryz.prog w = .ok (.agg #[.pointer (some ⟨2, 179, none⟩), .pointer (some ⟨w.heap.size, 0, none⟩), .int .u64 150]) (w.alloc (.cells #[.pointer (some t)] 179)) := by kernel_rfl
theorem ea_typeP (a : Addr) (w : World) : (ReflectliteValue.methodAny (ReflectliteValue.valueError "reflectlite.Value.Type" 0) (fun t _ _ _ => ReflectliteType.toType t) #[.agg #[.pointer (some ⟨2, 179, none⟩), .pointer (some a), .int .u64 150]]).run Tryz.prog w = .ok (.iface 242 (.agg #[.pointer (some ⟨2, 179, none⟩)])) w := by kernel_rfl
theorem ea_mKind (h : Value) (w : World) : (Go.method 434 242 (.agg #[h]) "Kind").run Tryz.prog w = .ok (257, h) w := by kernel_rfl
theorem ea_kindP (w : World) : ((ReflectliteType.abiMethod fun t => (fun a : Nat => Value.int IntKind.u8 (a : Int)) <$> Rtype.kind t) #[.pointer (some ⟨2, 179, none⟩)]).run Tryz.prog w = .ok (.int .u8 22) w := by kernel_rfl
theorem ea_kindE (w : World) : ((ReflectliteType.abiMethod fun t => (fun a : Nat => Value.int IntKind.u8 (a : Int)) <$> Rtype.kind t) #[.pointer (some ⟨2, 33, none⟩)]).run Tryz.prog w = .ok (.int .u8 2) w := by kernel_rfl
theorem ea_rlm (z : Sem Value) (f : TypeId → Addr → Nat → Nat → Sem Value) (v : Value) :
  ReflectliteValue.method z f #[v] = (do match ← ReflectliteValue.parts v with | none => z | some (t, a, fl) => f t a fl (fl % 32)) := rfl
theorem ea_partsP (a : Addr) (w : World) : (ReflectliteValue.parts (.agg #[.pointer (some ⟨2, 179, none⟩), .pointer (some a), .int .u64 150])).run Tryz.prog w = .ok (some (179, a, 150)) w := by kernel_rfl
theorem ea_isNilP (a p : Addr) (W : World) (ha : W.cell? a = some (.pointer (some p))) :
  (ReflectliteValue.method (ReflectliteValue.valueError "reflectlite.Value.IsNil" 0) ReflectliteValue.isNil #[.agg #[.pointer (some ⟨2, 179, none⟩), .pointer (some a), .int .u64 150]]).run Tryz.prog W = .ok (.bool false) W := by
 rw [ea_rlm]
 simp only [Sem.run_bind, ea_partsP, Result.andThen]
 simp [ReflectliteValue.isNil, loadVar, isAgg, underlying, Tryz.underlying179, ha, Result.andThen]
theorem ea_mElem (h : Value) (w : World) : (Go.method 434 242 (.agg #[h]) "Elem").run Tryz.prog w = .ok (272, .agg #[h]) w := by kernel_rfl
theorem ea_mImpl (h : Value) (w : World) : (Go.method 434 242 (.agg #[h]) "Implements").run Tryz.prog w = .ok (273, .agg #[h]) w := by kernel_rfl
theorem ea_mAssn (h : Value) (w : World) : (Go.method 434 242 (.agg #[h]) "AssignableTo").run Tryz.prog w = .ok (270, .agg #[h]) w := by kernel_rfl
theorem ea_elemP (w : World) : (ReflectliteType.method ReflectliteType.elem #[.agg #[.pointer (some ⟨2, 179, none⟩)]]).run Tryz.prog w = .ok (.iface 242 (.agg #[.pointer (some ⟨2, 33, none⟩)])) w := by kernel_rfl
theorem ea_implE (w : World) : (ReflectliteType.relation "Implements" ReflectliteType.implements_ #[.agg #[.pointer (some ⟨2, 33, none⟩)], .iface 242 (.agg #[.pointer (some ⟨2, 175, none⟩)])]).run Tryz.prog w = .ok (.bool true) w := by kernel_rfl
theorem ea_typeOfF (v : Value) (w : World) : (ReflectliteType.typeOf #[.iface 238 v]).run Tryz.prog w = .ok (.iface 242 (.agg #[.pointer (some ⟨2, 238, none⟩)])) w := by kernel_rfl
theorem ea_typeOfE (v : Value) (w : World) : (ReflectliteType.typeOf #[.iface 33 v]).run Tryz.prog w = .ok (.iface 242 (.agg #[.pointer (some ⟨2, 33, none⟩)])) w := by kernel_rfl
theorem ea_assnF (w : World) : (ReflectliteType.relation "AssignableTo" ReflectliteType.assignableTo #[.agg #[.pointer (some ⟨2, 238, none⟩)], .iface 242 (.agg #[.pointer (some ⟨2, 33, none⟩)])]).run Tryz.prog w = .ok (.bool false) w := by kernel_rfl
theorem ea_assnE (w : World) : (ReflectliteType.relation "AssignableTo" ReflectliteType.assignableTo #[.agg #[.pointer (some ⟨2, 33, none⟩)], .iface 242 (.agg #[.pointer (some ⟨2, 33, none⟩)])]).run Tryz.prog w = .ok (.bool true) w := by kernel_rfl
theorem ea_valueOfE (y : Int) (w : World) : (ReflectliteValue.unpack (.iface 33 (.int .i64 y))).run Tryz.prog w = .ok (.agg #[.pointer (some ⟨2, 33, none⟩), .pointer (some ⟨w.heap.size, 0, none⟩), .int .u64 130]) (w.alloc (.cells #[.int .i64 y] 33)) := by kernel_rfl
theorem ea_elemOf (w : World) : (Rtype.elem? 179).run Tryz.prog w = .ok (some 33) w := by kernel_rfl
theorem ea_mkE (p : Addr) (w : World) : (ReflectliteValue.mk 33 p ReflectliteValue.flagAddr).run Tryz.prog w = .ok (.agg #[.pointer (some ⟨2, 33, none⟩), .pointer (some p), .int .u64 386]) w := by kernel_rfl
theorem ea_elemV (a p : Addr) (W : World) (ha : W.cell? a = some (.pointer (some p))) :
  (ReflectliteValue.method (ReflectliteValue.valueError "reflectlite.Value.Elem" 0) ReflectliteValue.elem #[.agg #[.pointer (some ⟨2, 179, none⟩), .pointer (some a), .int .u64 150]]).run Tryz.prog W = .ok (.agg #[.pointer (some ⟨2, 33, none⟩), .pointer (some p), .int .u64 386]) W := by
 rw [ea_rlm]
 simp only [Sem.run_bind, ea_partsP, Result.andThen]
 simp [ReflectliteValue.elem, loadVar, isAgg, underlying, Tryz.underlying179, ha, Result.andThen, ea_elemOf, ea_mkE]
theorem ea_rls (v x : Value) : ReflectliteValue.set #[v, x] = (do
  let (some (dst, a, fl), some (src, b, _)) := (← ReflectliteValue.parts v, ← ReflectliteValue.parts x)
   | unsupported (.noEntry "extern/(internal/reflectlite.Value).Set.zeroValue")
  if fl / ReflectliteValue.flagAddr % 2 == 0 then unsupported (.noEntry "extern/(internal/reflectlite.Value).Set.unaddressable")
  let val ← loadVar src b
  if ← Rtype.directlyAssignable dst src then storeVar dst a val
  else if ← Rtype.implements dst src then
   if (← Rtype.kind src) == 20 then
    match val with
    | .nilIface => unsupported (.noEntry "extern/reflectlite: a nil value of one interface type handed on as a value of another")
    | _ => storeVar dst a val
   else storeVar dst a (.iface src val)
  else panicString ("reflectlite.Set: value of type " ++ (← Rtype.spelt src) ++ " is not assignable to type " ++ (← Rtype.spelt dst))
  pure (.tuple #[])) := rfl
theorem ea_partsEa (a : Addr) (w : World) : (ReflectliteValue.parts (.agg #[.pointer (some ⟨2, 33, none⟩), .pointer (some a), .int .u64 386])).run Tryz.prog w = .ok (some (33, a, 386)) w := by kernel_rfl
theorem ea_partsE (a : Addr) (w : World) : (ReflectliteValue.parts (.agg #[.pointer (some ⟨2, 33, none⟩), .pointer (some a), .int .u64 130])).run Tryz.prog w = .ok (some (33, a, 130)) w := by kernel_rfl
theorem ea_direct (w : World) : (Rtype.directlyAssignable 33 33).run Tryz.prog w = .ok true w := by kernel_rfl
theorem ea_set (ta b : Addr) (y : Int) (old : Value) (W : World) (hb : W.cell? b = some (.int .i64 y)) (ht : W.cell? ta = some old) (hf : W.frozen? ta = false) :
  (ReflectliteValue.set #[.agg #[.pointer (some ⟨2, 33, none⟩), .pointer (some ta), .int .u64 386], .agg #[.pointer (some ⟨2, 33, none⟩), .pointer (some b), .int .u64 130]]).run Tryz.prog W = .ok (.tuple #[]) (W.setCell ta (.int .i64 y)) := by
 rw [ea_rls]
 simp only [Sem.run_bind, ea_partsEa, ea_partsE, Result.andThen]
 simp [ReflectliteValue.flagAddr, loadVar, isAgg, underlying, Tryz.underlying33, hb, Result.andThen, ea_direct, storeVar, Value.cells, storeCells, Addr.add]
 rw [run_store Tryz.prog W ta _ _ (by rfl)]
 simp [ht, hf]
theorem ea_noAs (v : Value) (xT : TypeId) (w : World) : (Instr.typeAssert (.iface 238 v) xT 247 true).run Tryz.prog w = .ok (.tuple #[.nilIface, .bool false]) w := run_typeAssert_lacksB Tryz.underlying247 (by kernel_rfl) (by kernel_rfl) v xT w
theorem ea_unw (v : Value) (xT : TypeId) (w : World) : (Instr.typeAssert (.iface 238 v) xT 250 true).run Tryz.prog w = .ok (.tuple #[.iface 238 v, .bool true]) w := run_typeAssert_hasB Tryz.underlying250 (by kernel_rfl) v xT w
theorem ea_mUnw (v : Value) (w : World) : (Go.method 434 238 v "Unwrap").run Tryz.prog w = .ok (268, v) w := by kernel_rfl
theorem unwrap_any (y : Int) (w : World) : Calls Tryz.prog 268 #[.agg #[.int .i64 y]] w fun e w' => e = .returned (.iface 33 (.int .i64 y)) ∧ Below w.heap.size w w' := by
 go_enter Tryz.func268, Tryz.ntmps268
 go_wp2
 go_ret
 exact ⟨rfl, (Below.refl _ _).alloc (Nat.le_refl _) _⟩
theorem chg_setA (w : World) (a : Addr) (x : Value) : Chg w (w.setCell a x) fun k => k = a.block := by
 exact ⟨rfl, rfl, rfl, by simp [World.setCell], fun j _ hj => heap_setCell_other w a j _ (fun e => hj (by rw [e]))⟩
def AsP (w : World) (t : Addr) (y : Int) (e : Ending) (w' : World) : Prop := e = .returned (.bool true) ∧ w'.cell? t = some (.int .i64 y) ∧ Chg w w' fun k => k = t.block
set_option maxRecDepth 200000 in
set_option maxHeartbeats 8000000 in
theorem eas_any (y : Int) (t a : Addr) (old : Value) (w : World) (ha : w.cell? a = some (.pointer (some t))) (ht : w.cell? t = some old) (hf : w.frozen? t = false) : Calls Tryz.prog 155 #[.iface 238 (.agg #[.int .i64 y]), .iface 179 (.pointer (some t)), .agg #[.pointer (some ⟨2, 179, none⟩), .pointer (some a), .int .u64 150], .iface 242 (.agg #[.pointer (some ⟨2, 33, none⟩)])] w (AsP w t y) := by
 have h152 := @run_callFunc_extern Tryz.prog 152 _ (fun args => ReflectliteValue.unpack (args.getD 0 (.tuple #[]))) Tryz.func152 (by kernel_rfl) (by kernel_rfl) (by kernel_rfl) (by kernel_rfl)
 have h270 := @run_callFunc_extern Tryz.prog 270 _ (ReflectliteType.relation "AssignableTo" ReflectliteType.assignableTo) Tryz.func270 (by kernel_rfl) (by kernel_rfl) (by kernel_rfl) (by kernel_rfl)
 have h184 := @run_callFunc_extern Tryz.prog 184 _ ReflectliteType.typeOf Tryz.func184 (by kernel_rfl) (by kernel_rfl) (by kernel_rfl) (by kernel_rfl)
 have h185 := @run_callFunc_extern Tryz.prog 185 _ (ReflectliteValue.method (ReflectliteValue.valueError "reflectlite.Value.Elem" 0) ReflectliteValue.elem) Tryz.func185 (by kernel_rfl) (by kernel_rfl) (by kernel_rfl) (by kernel_rfl)
 have h186 := @run_callFunc_extern Tryz.prog 186 _ ReflectliteValue.set Tryz.func186 (by kernel_rfl) (by kernel_rfl) (by kernel_rfl) (by kernel_rfl)
 have tF := ea_typeOfF
 have tE := ea_typeOfE
 have mA := ea_mAssn
 have aF := ea_assnF
 have aE := ea_assnE
 have vE := ea_valueOfE
 have nA := ea_noAs
 have uW := ea_unw
 have mU := ea_mUnw
 have hal := lt_of_cell' ha
 have htl := lt_of_cell' ht
 go_enter Tryz.func155, Tryz.ntmps155
 go_wp2
 refine wp_loop_rounds 2 ?_
 rw [rounds_succ]
 go_wp2_with (refine (unwrap_any _ _).mono ?_; rintro e w1 ⟨rfl, hb1⟩)
 have hb0 : Below w.heap.size w (w.alloc (.cells #[.pointer (some ⟨2, 179, none⟩), .pointer (some a), .int .u64 150] 209)) := (Below.refl _ _).alloc (Nat.le_refl _) _
 have hrow := heap_alloc_new w (.cells #[.pointer (some ⟨2, 179, none⟩), .pointer (some a), .int .u64 150] 209)
 have hrow1 := (hb1.block w.heap.size (Array.getElem?_eq_some_iff.1 hrow).1).trans hrow
 have z0 : w1.cell? ⟨w.heap.size, 0, none⟩ = some (.pointer (some ⟨2, 179, none⟩)) := cell_of_row w1 _ 0 _ 209 (0, 0) hrow1
 have z1 : w1.cell? ⟨w.heap.size, 1, none⟩ = some (.pointer (some a)) := cell_of_row w1 _ 1 _ 209 (0, 0) hrow1
 have z2 : w1.cell? ⟨w.heap.size, 2, none⟩ = some (.int .u64 150) := cell_of_row w1 _ 2 _ 209 (0, 0) hrow1
 have hb01 : Below w.heap.size w w1 := hb0.trans (hb1.mono hb0.size)
 have ha1 : w1.cell? a = some (.pointer (some t)) := (hb01.cell hal).trans ha
 have ht1 : w1.cell? t = some old := (hb01.cell htl).trans ht
 have hf1 : w1.frozen? t = false := (hb01.frozen htl).trans hf
 have el := ea_elemV a t w1 ha1
 have htl1 : t.block < w1.heap.size := Nat.lt_of_lt_of_le htl hb01.size
 have hb2 : Below w1.heap.size w1 (w1.alloc (.cells #[.int .i64 y] 33)) := (Below.refl _ _).alloc (Nat.le_refl _) _
 have ht2 := (hb2.cell htl1).trans ht1
 have hf2 := (hb2.frozen htl1).trans hf1
 have st := ea_set t ⟨w1.heap.size, 0, none⟩ y old (w1.alloc (.cells #[.int .i64 y] 33)) (cell_of_row _ w1.heap.size 0 _ 33 (0, 0) (heap_alloc_new w1 _)) ht2 hf2
 have HB := hide (And.intro (Chg.of_below (hb01.trans (hb2.mono hb01.size)) (fun k => k = t.block)) ht2)
 clear hb0 hrow hrow1 hb01 hb1 hb2 ht2 hf2 ht1 hf1 ha ht hf hal htl htl1
 rw [rounds_succ]
 go_wp2
 go_ret
 refine ⟨rfl, World.cell?_setCell_same _ _ _ HB.out.2, ?_⟩
 exact HB.out.1.trans (chg_setA _ t _) (fun k e => .inl e)
def ErrT (w : World) : Prop := w.cell? ⟨0, 0, none⟩ = some (.iface 242 (.agg #[.pointer (some ⟨2, 175, none⟩)]))
theorem ErrT.below {w w' : World} (h : ErrT w) (hb : Below w.heap.size w w') : ErrT w' := (hb.cell (p := ⟨0, 0, none⟩) (lt_of_cell h)).trans h
theorem ErrT.chg {w w' : World} {S : Nat → Prop} (h : ErrT w) (hc : Chg w w' S) (hn : ¬ S 0) : ErrT w' := hc.cell h hn
theorem ErrT.pos {w : World} (h : ErrT w) : 0 < w.heap.size := lt_of_cell h
set_option maxRecDepth 200000 in
set_option maxHeartbeats 8000000 in
theorem eAs_any (y : Int) (g : Nat) (old : Value) (w : World) (hE : ErrT w) (ht : w.cell? ⟨g, 0, none⟩ = some old) (hf : w.frozen? ⟨g, 0, none⟩ = false) : Calls Tryz.prog 112 #[.iface 238 (.agg #[.int .i64 y]), .iface 179 (.pointer (some ⟨g, 0, none⟩))] w fun e w' => e = .returned (.bool true) ∧ w'.cell? ⟨g, 0, none⟩ = some (.int .i64 y) ∧ Chg w w' fun k => k = g := by
 have h152 := @run_callFunc_extern Tryz.prog 152 _ (fun args => ReflectliteValue.unpack (args.getD 0 (.tuple #[]))) Tryz.func152 (by kernel_rfl) (by kernel_rfl) (by kernel_rfl) (by kernel_rfl)
 have h153 := @run_callFunc_extern Tryz.prog 153 _ (ReflectliteValue.methodAny (ReflectliteValue.valueError "reflectlite.Value.Type" 0) (fun t _ _ _ => ReflectliteType.toType t)) Tryz.func153 (by kernel_rfl) (by kernel_rfl) (by kernel_rfl) (by kernel_rfl)
 have h154 := @run_callFunc_extern Tryz.prog 154 _ (ReflectliteValue.method (ReflectliteValue.valueError "reflectlite.Value.IsNil" 0) ReflectliteValue.isNil) Tryz.func154 (by kernel_rfl) (by kernel_rfl) (by kernel_rfl) (by kernel_rfl)
 have hK := @run_callFunc_extern Tryz.prog 257 _ (ReflectliteType.abiMethod fun t => do pure (.int .u8 (← Rtype.kind t))) Tryz.func257 (by kernel_rfl) (by kernel_rfl) (by kernel_rfl) (by kernel_rfl)
 have hEl := @run_callFunc_extern Tryz.prog 272 _ (ReflectliteType.method ReflectliteType.elem) Tryz.func272 (by kernel_rfl) (by kernel_rfl) (by kernel_rfl) (by kernel_rfl)
 have hIm := @run_callFunc_extern Tryz.prog 273 _ (ReflectliteType.relation "Implements" ReflectliteType.implements_) Tryz.func273 (by kernel_rfl) (by kernel_rfl) (by kernel_rfl) (by kernel_rfl)
 have f6 := ea_valueOfP
 have f7 := ea_typeP
 have mK := ea_mKind
 have mE := ea_mElem
 have mI := ea_mImpl
 have kP := ea_kindP
 have kE := ea_kindE
 have eP := ea_elemP
 have iE := ea_implE
 have hb1 : Below w.heap.size w (w.alloc (.cells #[.pointer (some ⟨g, 0, none⟩)] 179)) := (Below.refl _ _).alloc (Nat.le_refl _) _
 have hb2 : Below w.heap.size w ((w.alloc (.cells #[.pointer (some ⟨g, 0, none⟩)] 179)).alloc (.cells #[.pointer (some ⟨2, 179, none⟩), .pointer (some ⟨w.heap.size, 0, none⟩), .int .u64 150] 209)) := hb1.alloc (by simp) _
 have hca : ((w.alloc (.cells #[.pointer (some ⟨g, 0, none⟩)] 179)).alloc (.cells #[.pointer (some ⟨2, 179, none⟩), .pointer (some ⟨w.heap.size, 0, none⟩), .int .u64 150] 209)).cell? ⟨w.heap.size, 0, none⟩ = some (.pointer (some ⟨g, 0, none⟩)) := by rw [World.cell?_alloc_lt _ _ ⟨w.heap.size, 0, none⟩ (by simp)]; simp
 have n8 := ea_isNilP ⟨w.heap.size, 0, none⟩ ⟨g, 0, none⟩ _ hca
 have hg0 : ((w.alloc (.cells #[.pointer (some ⟨g, 0, none⟩)] 179)).alloc (.cells #[.pointer (some ⟨2, 179, none⟩), .pointer (some ⟨w.heap.size, 0, none⟩), .int .u64 150] 209)).cell? ⟨0, 0, none⟩ = some (.iface 242 (.agg #[.pointer (some ⟨2, 175, none⟩)])) := hE.below hb2
 have hgl := lt_of_cell ht
 have AS := hide (eas_any y ⟨g, 0, none⟩ ⟨w.heap.size, 0, none⟩ old _ hca ((hb2.cell (p := ⟨g, 0, none⟩) hgl).trans ht) ((hb2.frozen (p := ⟨g, 0, none⟩) hgl).trans hf))
 have HB := hide hb2
 clear hb1 hb2 hca hE ht hf hgl
 go_enter Tryz.func112, Tryz.ntmps112
 go_wp2_with fail
 refine AS.out.mono ?_
 rintro e w3 ⟨rfl, hc3, hg3⟩
 have H3 := hide (And.intro hc3 ((Chg.of_below HB.out (fun k => k = g)).trans hg3 (fun k e => .inl e)))
 clear hc3 hg3
 go_wp2
 go_ret
 exact ⟨rfl, H3.out.1, H3.out.2⟩
end Go.Proofs.YtionbmlicmibgaaGreatDoor
