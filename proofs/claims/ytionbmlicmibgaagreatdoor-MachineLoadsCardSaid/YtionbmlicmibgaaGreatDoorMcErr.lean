import Derived.Test.YtionbmlicmibgaaGreatDoorMcGetG
import Derived.LaidEql
import Derived.Stop.Asserts
import Derived.RowKitTokens
set_option linter.unusedVariables false
set_option linter.unusedSimpArgs false
namespace Go.Proofs.YtionbmlicmibgaaGreatDoor
open Go.Proofs.Tryz
set_option maxRecDepth 200000
set_option maxHeartbeats 8000000
open Go.RowKit Go.Extern.Stop Go.Stop Go.Extern
theorem ri {w : World} {a : Addr} {v : Value} (h : w.cell? a = some v) : a.block < w.heap.size := by
 rcases Nat.lt_or_ge a.block w.heap.size with h1 | h1
 ·exact h1
 ·simp [World.cell?, Array.getElem?_eq_none h1] at h
theorem Sk (t : Value) (w : World) : Calls prog 112 #[.nilIface, t] w fun e w' => e = .returned (.bool false) ∧ w' = w := by
 go_enter func112, ntmps112
 go_wp2;go_ret;exact ⟨rfl, rfl⟩
theorem AY (t : Addr) (w : World) : (ReflectliteValue.unpack (.iface 179 (.pointer (some t)))).run prog w = .ok (.agg #[.pointer (some ⟨2, 179, none⟩), .pointer (some ⟨w.heap.size, 0, none⟩), .int .u64 150]) (w.alloc (.cells #[.pointer (some t)] 179)) := by kernel_rfl
theorem KB (a : Addr) (w : World) : (ReflectliteValue.methodAny (ReflectliteValue.valueError "reflectlite.Value.Type" 0) (fun t _ _ _ => ReflectliteType.toType t) #[.agg #[.pointer (some ⟨2, 179, none⟩), .pointer (some a), .int .u64 150]]).run prog w = .ok (.iface 242 (.agg #[.pointer (some ⟨2, 179, none⟩)])) w := by kernel_rfl
theorem KC (h : Value) (w : World) : (Go.method 434 242 (.agg #[h]) "Kind").run prog w = .ok (257, h) w := by kernel_rfl
theorem KD (w : World) : ((ReflectliteType.abiMethod fun t => (fun a : Nat => Value.int IntKind.u8 (a : Int)) <$> Rtype.kind t) #[.pointer (some ⟨2, 179, none⟩)]).run prog w = .ok (.int .u8 22) w := by kernel_rfl
theorem KE (w : World) : ((ReflectliteType.abiMethod fun t => (fun a : Nat => Value.int IntKind.u8 (a : Int)) <$> Rtype.kind t) #[.pointer (some ⟨2, 33, none⟩)]).run prog w = .ok (.int .u8 2) w := by kernel_rfl
theorem KF (z : Sem Value) (f : TypeId → Addr → Nat → Nat → Sem Value) (v : Value) :
  ReflectliteValue.method z f #[v] = (do match ← ReflectliteValue.parts v with | none => z | some (t, a, fl) => f t a fl (fl % 32)) := rfl
theorem xb (a : Addr) (w : World) : (ReflectliteValue.parts (.agg #[.pointer (some ⟨2, 179, none⟩), .pointer (some a), .int .u64 150])).run prog w = .ok (some (179, a, 150)) w := by kernel_rfl
theorem Hb (a p : Addr) (W : World) (ha : W.cell? a = some (.pointer (some p))) :
  (ReflectliteValue.method (ReflectliteValue.valueError "reflectlite.Value.IsNil" 0) ReflectliteValue.isNil #[.agg #[.pointer (some ⟨2, 179, none⟩), .pointer (some a), .int .u64 150]]).run prog W = .ok (.bool false) W := by
 rw [KF];simp only [Sem.run_bind, xb, Result.andThen];simp [ReflectliteValue.isNil, loadVar, isAgg, underlying, underlying179, ha, Result.andThen]
theorem KG (h : Value) (w : World) : (Go.method 434 242 (.agg #[h]) "Elem").run prog w = .ok (272, .agg #[h]) w := by kernel_rfl
theorem KH (h : Value) (w : World) : (Go.method 434 242 (.agg #[h]) "Implements").run prog w = .ok (273, .agg #[h]) w := by kernel_rfl
theorem KI (h : Value) (w : World) : (Go.method 434 242 (.agg #[h]) "AssignableTo").run prog w = .ok (270, .agg #[h]) w := by kernel_rfl
theorem KJ (w : World) : (ReflectliteType.method ReflectliteType.elem #[.agg #[.pointer (some ⟨2, 179, none⟩)]]).run prog w = .ok (.iface 242 (.agg #[.pointer (some ⟨2, 33, none⟩)])) w := by kernel_rfl
theorem KL (w : World) : (ReflectliteType.relation "Implements" ReflectliteType.implements_ #[.agg #[.pointer (some ⟨2, 33, none⟩)], .iface 242 (.agg #[.pointer (some ⟨2, 175, none⟩)])]).run prog w = .ok (.bool true) w := by kernel_rfl
theorem D8 (v : Value) (w : World) : (ReflectliteType.typeOf #[.iface 238 v]).run prog w = .ok (.iface 242 (.agg #[.pointer (some ⟨2, 238, none⟩)])) w := by kernel_rfl
theorem D9 (v : Value) (w : World) : (ReflectliteType.typeOf #[.iface 33 v]).run prog w = .ok (.iface 242 (.agg #[.pointer (some ⟨2, 33, none⟩)])) w := by kernel_rfl
theorem KM (w : World) : (ReflectliteType.relation "AssignableTo" ReflectliteType.assignableTo #[.agg #[.pointer (some ⟨2, 238, none⟩)], .iface 242 (.agg #[.pointer (some ⟨2, 33, none⟩)])]).run prog w = .ok (.bool false) w := by kernel_rfl
theorem KN (w : World) : (ReflectliteType.relation "AssignableTo" ReflectliteType.assignableTo #[.agg #[.pointer (some ⟨2, 33, none⟩)], .iface 242 (.agg #[.pointer (some ⟨2, 33, none⟩)])]).run prog w = .ok (.bool true) w := by kernel_rfl
theorem AZ (y : Int) (w : World) : (ReflectliteValue.unpack (.iface 33 (.int .i64 y))).run prog w = .ok (.agg #[.pointer (some ⟨2, 33, none⟩), .pointer (some ⟨w.heap.size, 0, none⟩), .int .u64 130]) (w.alloc (.cells #[.int .i64 y] 33)) := by kernel_rfl
theorem Hc (w : World) : (Rtype.elem? 179).run prog w = .ok (some 33) w := by kernel_rfl
theorem Sl (p : Addr) (w : World) : (ReflectliteValue.mk 33 p ReflectliteValue.flagAddr).run prog w = .ok (.agg #[.pointer (some ⟨2, 33, none⟩), .pointer (some p), .int .u64 386]) w := by kernel_rfl
theorem KO (a p : Addr) (W : World) (ha : W.cell? a = some (.pointer (some p))) :
  (ReflectliteValue.method (ReflectliteValue.valueError "reflectlite.Value.Elem" 0) ReflectliteValue.elem #[.agg #[.pointer (some ⟨2, 179, none⟩), .pointer (some a), .int .u64 150]]).run prog W = .ok (.agg #[.pointer (some ⟨2, 33, none⟩), .pointer (some p), .int .u64 386]) W := by
 rw [KF];simp only [Sem.run_bind, xb, Result.andThen];simp [ReflectliteValue.elem, loadVar, isAgg, underlying, underlying179, ha, Result.andThen, Hc, Sl]
theorem Sm (v x : Value) : ReflectliteValue.set #[v, x] = (do
  let (some (dst, a, fl), some (src, b, _)) := (← ReflectliteValue.parts v, ← ReflectliteValue.parts x)
   | unsupported (.noEntry "extern/(internal/reflectlite.Value).Set.zeroValue")
  if fl / ReflectliteValue.flagAddr % 2 == 0 then unsupported (.noEntry "extern/(internal/reflectlite.Value).Set.unaddressable")
  let val ← loadVar src b
  if ← Rtype.directlyAssignable dst src then storeVar dst a val
  else if ← Rtype.implements dst src then
   if (← Rtype.kind src) == 20 then
    match val with
    | .nilIface => unsupported (.noEntry "extern/reflectlite: a nil value of one interface type handed on as a value of another")
    | _ => storeVar dst a val
   else storeVar dst a (.iface src val)
  else panicString ("reflectlite.Set: value of type " ++ (← Rtype.spelt src) ++ " is not assignable to type " ++ (← Rtype.spelt dst))
  pure (.tuple #[])) := rfl
theorem D_ (a : Addr) (w : World) : (ReflectliteValue.parts (.agg #[.pointer (some ⟨2, 33, none⟩), .pointer (some a), .int .u64 386])).run prog w = .ok (some (33, a, 386)) w := by kernel_rfl
theorem Hd (a : Addr) (w : World) : (ReflectliteValue.parts (.agg #[.pointer (some ⟨2, 33, none⟩), .pointer (some a), .int .u64 130])).run prog w = .ok (some (33, a, 130)) w := by kernel_rfl
theorem He (w : World) : (Rtype.directlyAssignable 33 33).run prog w = .ok true w := by kernel_rfl
theorem Sn (ta b : Addr) (y : Int) (old : Value) (W : World) (hb : W.cell? b = some (.int .i64 y)) (ht : W.cell? ta = some old) (hf : W.frozen? ta = false) :
  (ReflectliteValue.set #[.agg #[.pointer (some ⟨2, 33, none⟩), .pointer (some ta), .int .u64 386], .agg #[.pointer (some ⟨2, 33, none⟩), .pointer (some b), .int .u64 130]]).run prog W = .ok (.tuple #[]) (W.setCell ta (.int .i64 y)) := by
 rw [Sm];simp only [Sem.run_bind, D_, Hd, Result.andThen];simp [ReflectliteValue.flagAddr, loadVar, isAgg, underlying, underlying33, hb, Result.andThen, He, storeVar, Value.cells, storeCells, Addr.add];rw [run_store prog W ta _ _ (by rfl)];simp [ht, hf]
theorem Oa (v : Value) (xT : TypeId) (w : World) : (Instr.typeAssert (.iface 238 v) xT 247 true).run prog w = .ok (.tuple #[.nilIface, .bool false]) w := run_typeAssert_lacksB underlying247 (by kernel_rfl) (by kernel_rfl) v xT w
theorem Sq (v : Value) (xT : TypeId) (w : World) : (Instr.typeAssert (.iface 238 v) xT 250 true).run prog w = .ok (.tuple #[.iface 238 v, .bool true]) w := run_typeAssert_hasB underlying250 (by kernel_rfl) v xT w
theorem Ob (v : Value) (w : World) : (Go.method 434 238 v "Unwrap").run prog w = .ok (268, v) w := by kernel_rfl
theorem Ea (y : Int) (w : World) : Calls prog 268 #[.agg #[.int .i64 y]] w fun e w' => e = .returned (.iface 33 (.int .i64 y)) ∧ Below w.heap.size w w' := by
 go_enter func268, ntmps268
 go_wp2;go_ret;exact ⟨rfl, (acG _ _).alloc (acE _) _⟩
theorem KP (w : World) (a : Addr) (x : Value) : ak w (w.setCell a x) fun k => k = a.block := by
 exact ⟨rfl, rfl, rfl, by simp [World.setCell], fun j _ hj => adf w a j _ (fun e => hj (by rw [e]))⟩
def AsP (w : World) (t : Addr) (y : Int) (e : Ending) (w' : World) : Prop := e = .returned (.bool true) ∧ w'.cell? t = some (.int .i64 y) ∧ ak w w' fun k => k = t.block
theorem Oc (y : Int) (t a : Addr) (old : Value) (w : World) (ha : w.cell? a = some (.pointer (some t))) (ht : w.cell? t = some old) (hf : w.frozen? t = false) : Calls prog 155 #[.iface 238 (.agg #[.int .i64 y]), .iface 179 (.pointer (some t)), .agg #[.pointer (some ⟨2, 179, none⟩), .pointer (some a), .int .u64 150], .iface 242 (.agg #[.pointer (some ⟨2, 33, none⟩)])] w (AsP w t y) := by
 have aaj := @ad3 prog 152 _ (fun args => ReflectliteValue.unpack (args.getD 0 (.tuple #[]))) func152 (by kernel_rfl) (by kernel_rfl) (by kernel_rfl) (by kernel_rfl);have ab7 := @ad3 prog 270 _ (ReflectliteType.relation "AssignableTo" ReflectliteType.assignableTo) func270 (by kernel_rfl) (by kernel_rfl) (by kernel_rfl) (by kernel_rfl);have ab8 := @ad3 prog 184 _ ReflectliteType.typeOf func184 (by kernel_rfl) (by kernel_rfl) (by kernel_rfl) (by kernel_rfl);have ab9 := @ad3 prog 185 _ (ReflectliteValue.method (ReflectliteValue.valueError "reflectlite.Value.Elem" 0) ReflectliteValue.elem) func185 (by kernel_rfl) (by kernel_rfl) (by kernel_rfl) (by kernel_rfl);have ab_ := @ad3 prog 186 _ ReflectliteValue.set func186 (by kernel_rfl) (by kernel_rfl) (by kernel_rfl) (by kernel_rfl);have tF := D8;have tE := D9;have mA := KI;have aF := KM;have aE := KN;have vE := AZ;have nA := Oa;have uW := Sq;have mU := Ob;have lV := ri ha;have Hf := ri ht;go_enter func155, ntmps155
 go_wp2;refine wp_loop_rounds 2 ?_;rw [rounds_succ];go_wp2_with (refine (Ea _ _).mono ?_; rintro e w1 ⟨rfl, aK⟩)
 have fA : Below w.heap.size w (w.alloc (.cells #[.pointer (some ⟨2, 179, none⟩), .pointer (some a), .int .u64 150] 209)) := (acG _ _).alloc (acE _) _;have aM := acQ w (.cells #[.pointer (some ⟨2, 179, none⟩), .pointer (some a), .int .u64 150] 209);have FM := (aK.block w.heap.size (acJ.1 aM).1).trans aM;have z0 : w1.cell? ⟨w.heap.size, 0, none⟩ = some (.pointer (some ⟨2, 179, none⟩)) := acC w1 _ 0 _ 209 (0, 0) FM;have z1 : w1.cell? ⟨w.heap.size, 1, none⟩ = some (.pointer (some a)) := acC w1 _ 1 _ 209 (0, 0) FM;have z2 : w1.cell? ⟨w.heap.size, 2, none⟩ = some (.int .u64 150) := acC w1 _ 2 _ 209 (0, 0) FM;have Eb : Below w.heap.size w w1 := fA.trans (aK.mono fA.size);have Qt : w1.cell? a = some (.pointer (some t)) := (Eb.cell lV).trans ha;have Zv : w1.cell? t = some old := (Eb.cell Hf).trans ht;have U5 : w1.frozen? t = false := (Eb.frozen Hf).trans hf;have el := KO a t w1 Qt;have Sv : t.block < w1.heap.size := acV Hf Eb.size;have aP : Below w1.heap.size w1 (w1.alloc (.cells #[.int .i64 y] 33)) := (acG _ _).alloc (acE _) _;have ht2 := (aP.cell Sv).trans Zv;have Qu := (aP.frozen Sv).trans U5;have st := Sn t ⟨w1.heap.size, 0, none⟩ y old (w1.alloc (.cells #[.int .i64 y] 33)) (acC _ w1.heap.size 0 _ 33 (0, 0) (acQ w1 _)) ht2 Qu;have HB := af (acD (ak.of_below (Eb.trans (aP.mono Eb.size)) (fun k => k = t.block)) ht2);clear fA aM FM Eb aK aP ht2 Qu Zv U5 ha ht hf lV Hf Sv;rw [rounds_succ];go_wp2;go_ret;refine ⟨rfl, adB _ _ _ HB.out.2, ?_⟩;exact HB.out.1.trans (KP _ t _) (fun k e => .inl e)
def ko (w : World) : Prop := w.cell? ⟨0, 0, none⟩ = some (.iface 242 (.agg #[.pointer (some ⟨2, 175, none⟩)]))
theorem ko.below {w w' : World} (h : ko w) (hb : Below w.heap.size w w') : ko w' := (hb.cell (p := ⟨0, 0, none⟩) (lt_of_cell h)).trans h
theorem ko.aU {w w' : World} {S : Nat → Prop} (h : ko w) (hc : ak w w' S) (hn : ¬ S 0) : ko w' := hc.cell h hn
theorem ko.pos {w : World} (h : ko w) : 0 < w.heap.size := lt_of_cell h
theorem N_ (y : Int) (g : Nat) (old : Value) (w : World) (hE : ko w) (ht : w.cell? ⟨g, 0, none⟩ = some old) (hf : w.frozen? ⟨g, 0, none⟩ = false) : Calls prog 112 #[.iface 238 (.agg #[.int .i64 y]), .iface 179 (.pointer (some ⟨g, 0, none⟩))] w fun e w' => e = .returned (.bool true) ∧ w'.cell? ⟨g, 0, none⟩ = some (.int .i64 y) ∧ ak w w' fun k => k = g := by
 have aaj := @ad3 prog 152 _ (fun args => ReflectliteValue.unpack (args.getD 0 (.tuple #[]))) func152 (by kernel_rfl) (by kernel_rfl) (by kernel_rfl) (by kernel_rfl);have aca := @ad3 prog 153 _ (ReflectliteValue.methodAny (ReflectliteValue.valueError "reflectlite.Value.Type" 0) (fun t _ _ _ => ReflectliteType.toType t)) func153 (by kernel_rfl) (by kernel_rfl) (by kernel_rfl) (by kernel_rfl);have acb := @ad3 prog 154 _ (ReflectliteValue.method (ReflectliteValue.valueError "reflectlite.Value.IsNil" 0) ReflectliteValue.isNil) func154 (by kernel_rfl) (by kernel_rfl) (by kernel_rfl) (by kernel_rfl);have hK := @ad3 prog 257 _ (ReflectliteType.abiMethod fun t => do pure (.int .u8 (← Rtype.kind t))) func257 (by kernel_rfl) (by kernel_rfl) (by kernel_rfl) (by kernel_rfl);have hEl := @ad3 prog 272 _ (ReflectliteType.method ReflectliteType.elem) func272 (by kernel_rfl) (by kernel_rfl) (by kernel_rfl) (by kernel_rfl);have hIm := @ad3 prog 273 _ (ReflectliteType.relation "Implements" ReflectliteType.implements_) func273 (by kernel_rfl) (by kernel_rfl) (by kernel_rfl) (by kernel_rfl);have f6 := AY;have f7 := KB;have mK := KC;have mE := KG;have mI := KH;have kP := KD;have kE := KE;have eP := KJ;have iE := KL;have aK : Below w.heap.size w (w.alloc (.cells #[.pointer (some ⟨g, 0, none⟩)] 179)) := (acG _ _).alloc (acE _) _;have aP : Below w.heap.size w ((w.alloc (.cells #[.pointer (some ⟨g, 0, none⟩)] 179)).alloc (.cells #[.pointer (some ⟨2, 179, none⟩), .pointer (some ⟨w.heap.size, 0, none⟩), .int .u64 150] 209)) := aK.alloc (by simp) _;have UZ : ((w.alloc (.cells #[.pointer (some ⟨g, 0, none⟩)] 179)).alloc (.cells #[.pointer (some ⟨2, 179, none⟩), .pointer (some ⟨w.heap.size, 0, none⟩), .int .u64 150] 209)).cell? ⟨w.heap.size, 0, none⟩ = some (.pointer (some ⟨g, 0, none⟩)) := by rw [World.cell?_alloc_lt _ _ ⟨w.heap.size, 0, none⟩ (by simp)]; simp
 have n8 := Hb ⟨w.heap.size, 0, none⟩ ⟨g, 0, none⟩ _ UZ;have oe : ((w.alloc (.cells #[.pointer (some ⟨g, 0, none⟩)] 179)).alloc (.cells #[.pointer (some ⟨2, 179, none⟩), .pointer (some ⟨w.heap.size, 0, none⟩), .int .u64 150] 209)).cell? ⟨0, 0, none⟩ = some (.iface 242 (.agg #[.pointer (some ⟨2, 175, none⟩)])) := hE.below aP;have Kf := lt_of_cell ht;have AS := af (Oc y ⟨g, 0, none⟩ ⟨w.heap.size, 0, none⟩ old _ UZ ((aP.cell (p := ⟨g, 0, none⟩) Kf).trans ht) ((aP.frozen (p := ⟨g, 0, none⟩) Kf).trans hf));have HB := af aP;clear aK aP UZ hE ht hf Kf;go_enter func112, ntmps112
 go_wp2_with fail
 refine AS.out.mono ?_;rintro e w3 ⟨rfl, JY, fE⟩;have H3 := af (acD JY ((ak.of_below HB.out (fun k => k = g)).trans fE (fun k e => .inl e)));clear JY fE;go_wp2;go_ret;exact ⟨rfl, H3.out.1, H3.out.2⟩
end Go.Proofs.YtionbmlicmibgaaGreatDoor
