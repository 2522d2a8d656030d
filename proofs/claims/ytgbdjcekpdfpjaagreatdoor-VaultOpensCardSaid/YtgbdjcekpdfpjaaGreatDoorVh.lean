/- Several texts made one. -/
import Derived.Test.YtgbdjcekpdfpjaaGreatDoorRows
import Derived.Test.YtgbdjcekpdfpjaaGreatDoorVf
import Derived.Deep.Matrix
import Derived.Deep.Fields
import Derived.ChangeOld
import Derived.OpenShut
import Derived.Test.YtgbdjcekpdfpjaaGreatDoorVb
import Derived.ChangeSame
import Derived.ChangeVars
import Derived.JoinedOf
import Derived.RowKit
import Derived.RowKitTokens
import Derived.LaidLaws
import Derived.LaidHandle
import Derived.Stop.Joined
import Derived.Lib.LaidTab
import Derived.Stop.LaidErr
set_option linter.unusedVariables false
set_option linter.unusedSimpArgs false
namespace Go.Proofs.YtgbdjcekpdfpjaaGreatDoor
set_option maxRecDepth 200000
open Go.RowKit Go.Deep Go.ChangeShapes
theorem Tryz.cells3 : Tryz.prog.cellsOf 3 = 1 := by kernel_rfl
theorem Tryz.cells5 : Tryz.prog.cellsOf 5 = 1 := by kernel_rfl
theorem Tryz.cells9 : Tryz.prog.cellsOf 9 = 1 := by kernel_rfl
theorem Tryz.cellsBys : Tryz.prog.cellsOf 40 = 1 := by kernel_rfl
theorem Tryz.cellsIns : Tryz.prog.cellsOf 39 = 1 := by kernel_rfl
theorem Tryz.cellsSn : Tryz.prog.cellsOf 42 = 4 := by kernel_rfl
theorem Tryz.cellsDo : Tryz.prog.cellsOf 44 = 9 := by kernel_rfl
theorem Tryz.cellsFi : Tryz.prog.cellsOf 60 = 2 := by kernel_rfl
theorem by_of_arg {H : Type} {enc : TypeId × Value → H} {W : World} {a0 : Option Addr} {len cap : Nat} {d0 : DataW H} {p0 : List MemPlace}
  (h : DataW.Trod enc Tryz.prog W 0 (fun _ => true) true 40 (.slice a0 len cap) d0 p0) : ∃ l : List UInt8, l.length = len ∧ By W (.slice a0 len cap) l := by
 obtain ⟨fuel, hf⟩ := h
 rcases open_ints Tryz.underlying40 Tryz.underlying5 Tryz.cells5 hf with ⟨hcs, _⟩ | ⟨x, l, c, zs, hcs, _, hl, hm, hz, _, hcell, hwz⟩
 ·simp [Value.cells] at hcs
  obtain ⟨rfl, rfl, rfl⟩ := hcs
  exact by_of_row (zs := []) (.inl ⟨rfl, rfl, rfl, rfl⟩)
 ·simp [Value.cells] at hcs
  obtain ⟨rfl, rfl, rfl⟩ := hcs
  exact by_of_row (.inr ⟨_, rfl, hl, hm, by simpa using hz, hcell, hwz⟩)
theorem ns_of_arg {H : Type} {enc : TypeId × Value → H} {W : World} {a0 : Option Addr} {len cap : Nat} {d0 : DataW H} {p0 : List MemPlace}
  (h : DataW.Trod enc Tryz.prog W 0 (fun _ => true) true 39 (.slice a0 len cap) d0 p0) : ∃ l : List Int, Ns W (.slice a0 len cap) l := by
 obtain ⟨fuel, hf⟩ := h
 rcases open_ints Tryz.underlying39 Tryz.underlying3 Tryz.cells3 hf with ⟨hcs, _⟩ | ⟨x, l, c, zs, hcs, _, hl, hm, hz, _, hcell, hwz⟩
 ·simp [Value.cells] at hcs
  obtain ⟨rfl, rfl, rfl⟩ := hcs
  exact ⟨[], Ns.nil _⟩
 ·simp [Value.cells] at hcs
  obtain ⟨rfl, rfl, rfl⟩ := hcs
  have hzl : zs.length = cap := by simpa using hz
  refine ⟨zs.take len, some x, cap, by rw [List.length_take, Nat.min_eq_left (by omega)], by rw [List.length_take]; omega, hm, (fun e => by cases e), fun z hzm => ?_, fun h0 => ?_⟩
  ·have hw := hwz z (List.mem_of_mem_take hzm)
   have h1 : IntKind.i64.min = -9223372036854775808 := rfl
   have h2 : IntKind.i64.max = 9223372036854775807 := rfl
   simp only [Lit.wf, Bool.and_eq_true, decide_eq_true_eq] at hw
   unfold fits
   omega
  ·rw [List.length_take] at h0
   have hsp := World.cell?_spot (hcell 0 (by omega))
   obtain ⟨b, o, spot⟩ := x
   have hsp0 : spot = none := by
    unfold Addr.add at hsp
    rw [if_pos rfl] at hsp
    exact hsp
   subst hsp0
   refine ⟨b, o, rfl, fun i z hi => ?_⟩
   have hil := (List.getElem?_eq_some_iff.1 hi).1
   rw [List.length_take] at hil
   rw [List.getElem?_take_of_lt (by omega)] at hi
   have hc := hcell i (by omega)
   have hg : zs.getD i 0 = z := by simp [List.getD, hi]
   rw [hg, add_lit0] at hc
   exact hc
theorem fits_wf {x : Int} (h : (Lit.int .i64 x).wf = true) : fits x := by
 have h1 : IntKind.i64.min = -9223372036854775808 := rfl
 have h2 : IntKind.i64.max = 9223372036854775807 := rfl
 simp only [Lit.wf, Bool.and_eq_true, decide_eq_true_eq] at h
 unfold fits
 omega
theorem sl_cell {H : Type} {enc : TypeId × Value → H} {W : World} {ty e : TypeId} {c : Value} {fuel : Nat} {x : DataW H × List MemPlace} (hu : Tryz.prog.underlying ty = some (.slice e)) (h : DataW.trod enc Tryz.prog W 0 (fun _ => true) true fuel ty [c] = some x) : ∃ p n d, c = .slice p n d := by
 rcases DataW.trod_slice hu h with ⟨hcs', _⟩ | ⟨a, len', cap', elems, rest, n, -, hcs', _⟩
 ·simp at hcs'
  exact ⟨_, _, _, hcs'⟩
 ·simp at hcs'
  exact ⟨_, _, _, hcs'⟩
structure Dsn where
 ix : Int
 tm : Int
 pv : Option Addr
 nv : Nat
 dv : Nat
 v : List Int
 pb : Option Addr
 nb : Nat
 db : Nat
 b : List UInt8
def snC (d : Dsn) : List Value := [.int .i64 d.ix, .int .i64 d.tm, .slice d.pv d.nv d.dv, .slice d.pb d.nb d.db]
structure DsnIn (W : World) (d : Dsn) : Prop where
 h0 : Go.Proofs.YtgbdjcekpdfpjaaGreatDoor.fits d.ix
 h1 : Go.Proofs.YtgbdjcekpdfpjaaGreatDoor.fits d.tm
 h2 : Ns W (.slice d.pv d.nv d.dv) d.v
 h3 : By W (.slice d.pb d.nb d.db) d.b
theorem sn_of_cells {H : Type} {enc : TypeId × Value → H} {W : World} {cs : List Value} {fuel : Nat} {x : DataW H × List MemPlace} (hcs : cs.length = 4)
  (h : DataW.trod enc Tryz.prog W 0 (fun _ => true) true fuel 42 cs = some x) : ∃ d : Dsn, cs = snC d ∧ DsnIn W d := by
 obtain ⟨xs, n0, -, hd1, -, hxl, hx⟩ := DataW.trod_struct Tryz.underlying42 h
 obtain ⟨c0, c1, c2, c3, rfl⟩ : ∃ c0 c1 c2 c3, cs = [c0, c1, c2, c3] := by
  rcases cs with _ | ⟨c0, _ | ⟨c1, _ | ⟨c2, _ | ⟨c3, _ | ⟨c4, r⟩⟩⟩⟩⟩
  all_goals first | (exfalso; simp at hcs; done) | exact ⟨_, _, _, _, rfl⟩
 obtain ⟨y0, y1, y2, y3, rfl⟩ : ∃ y0 y1 y2 y3, xs = [y0, y1, y2, y3] := by
  rcases xs with _ | ⟨c0, _ | ⟨c1, _ | ⟨c2, _ | ⟨c3, _ | ⟨c4, r⟩⟩⟩⟩⟩
  all_goals first | (exfalso; simp at hxl; done) | exact ⟨_, _, _, _, rfl⟩
 have q0 : DataW.trod enc Tryz.prog W 0 (fun _ => true) true n0 3 (List.take (Tryz.prog.cellsOf 3) [c0, c1, c2, c3]) = some y0 := hx 0 _ rfl
 rw [Tryz.cells3] at q0
 obtain ⟨ix, e0, -, w0⟩ := DataW.trod_int Tryz.underlying3 q0
 simp at e0
 subst e0
 have q1 : DataW.trod enc Tryz.prog W 0 (fun _ => true) true n0 3 (List.take (Tryz.prog.cellsOf 3) [c1, c2, c3]) = some y1 := hx 1 _ rfl
 rw [Tryz.cells3] at q1
 obtain ⟨tm, e1, -, w1⟩ := DataW.trod_int Tryz.underlying3 q1
 simp at e1
 subst e1
 have q2 : DataW.trod enc Tryz.prog W 0 (fun _ => true) true n0 39 (List.take (Tryz.prog.cellsOf 39) [c2, c3]) = some y2 := hx 2 _ rfl
 rw [Tryz.cellsIns] at q2
 obtain ⟨pv, nv, dv, e2⟩ := sl_cell Tryz.underlying39 (show DataW.trod enc Tryz.prog W 0 (fun _ => true) true n0 39 [c2] = _ from q2)
 subst e2
 obtain ⟨v, w2⟩ := ns_of_arg (a0 := pv) (len := nv) (cap := dv) (d0 := y2.1) (p0 := y2.2) (W := W) (enc := enc) ⟨n0, q2⟩
 have q3 : DataW.trod enc Tryz.prog W 0 (fun _ => true) true n0 40 (List.take (Tryz.prog.cellsOf 40) [c3]) = some y3 := hx 3 _ rfl
 rw [Tryz.cellsBys] at q3
 obtain ⟨pb, nb, db, e3⟩ := sl_cell Tryz.underlying40 (show DataW.trod enc Tryz.prog W 0 (fun _ => true) true n0 40 [c3] = _ from q3)
 subst e3
 obtain ⟨b, -, w3⟩ := by_of_arg (a0 := pb) (len := nb) (cap := db) (d0 := y3.1) (p0 := y3.2) (W := W) (enc := enc) ⟨n0, q3⟩
 exact ⟨⟨ix, tm, pv, nv, dv, v, pb, nb, db, b⟩, rfl, ⟨fits_wf w0, fits_wf w1, w2, w3⟩⟩
structure Ddo where
 op : Int
 six : Int
 stm : Int
 psv : Option Addr
 nsv : Nat
 dsv : Nat
 sv : List Int
 psd : Option Addr
 nsd : Nat
 dsd : Nat
 sd : List UInt8
 size : Int
 n : Int
 keep : Int
 tear : Int
def doC (d : Ddo) : List Value := [.int .i64 d.op, .int .i64 d.six, .int .i64 d.stm, .slice d.psv d.nsv d.dsv, .slice d.psd d.nsd d.dsd, .int .i64 d.size, .int .i64 d.n, .int .i64 d.keep, .int .i64 d.tear]
theorem doC_length (d : Ddo) : (doC d).length = 9 := rfl
structure DdoIn (W : World) (d : Ddo) : Prop where
 h0 : Go.Proofs.YtgbdjcekpdfpjaaGreatDoor.fits d.op
 h1 : Ns W (.slice d.psv d.nsv d.dsv) d.sv
 h2 : By W (.slice d.psd d.nsd d.dsd) d.sd
 h3 : Go.Proofs.YtgbdjcekpdfpjaaGreatDoor.fits d.six
 h4 : Go.Proofs.YtgbdjcekpdfpjaaGreatDoor.fits d.stm
 h5 : Go.Proofs.YtgbdjcekpdfpjaaGreatDoor.fits d.size
 h6 : Go.Proofs.YtgbdjcekpdfpjaaGreatDoor.fits d.n
 h7 : Go.Proofs.YtgbdjcekpdfpjaaGreatDoor.fits d.keep
 h8 : Go.Proofs.YtgbdjcekpdfpjaaGreatDoor.fits d.tear
theorem do_of_cells {H : Type} {enc : TypeId × Value → H} {W : World} {cs : List Value} {fuel : Nat} {x : DataW H × List MemPlace} (hcs : cs.length = 9)
  (h : DataW.trod enc Tryz.prog W 0 (fun _ => true) true fuel 44 cs = some x) : ∃ d : Ddo, cs = doC d ∧ DdoIn W d := by
 obtain ⟨xs, n0, -, hd1, -, hxl, hx⟩ := DataW.trod_struct Tryz.underlying44 h
 obtain ⟨c0, c1, c2, c3, c4, c5, c6, c7, c8, rfl⟩ : ∃ c0 c1 c2 c3 c4 c5 c6 c7 c8, cs = [c0, c1, c2, c3, c4, c5, c6, c7, c8] := by
  rcases cs with _ | ⟨c0, _ | ⟨c1, _ | ⟨c2, _ | ⟨c3, _ | ⟨c4, _ | ⟨c5, _ | ⟨c6, _ | ⟨c7, _ | ⟨c8, _ | ⟨c9, r⟩⟩⟩⟩⟩⟩⟩⟩⟩⟩
  all_goals first | (exfalso; simp at hcs; done) | exact ⟨_, _, _, _, _, _, _, _, _, rfl⟩
 obtain ⟨y0, y1, y2, y3, y4, y5, rfl⟩ : ∃ y0 y1 y2 y3 y4 y5, xs = [y0, y1, y2, y3, y4, y5] := by
  rcases xs with _ | ⟨c0, _ | ⟨c1, _ | ⟨c2, _ | ⟨c3, _ | ⟨c4, _ | ⟨c5, _ | ⟨c6, r⟩⟩⟩⟩⟩⟩⟩
  all_goals first | (exfalso; simp at hxl; done) | exact ⟨_, _, _, _, _, _, rfl⟩
 have q0 : DataW.trod enc Tryz.prog W 0 (fun _ => true) true n0 3 (List.take (Tryz.prog.cellsOf 3) [c0, c1, c2, c3, c4, c5, c6, c7, c8]) = some y0 := hx 0 _ rfl
 rw [Tryz.cells3] at q0
 obtain ⟨op, e0, -, w0⟩ := DataW.trod_int Tryz.underlying3 q0
 simp at e0
 subst e0
 have q1 : DataW.trod enc Tryz.prog W 0 (fun _ => true) true n0 42 (List.take (Tryz.prog.cellsOf 42) [c1, c2, c3, c4, c5, c6, c7, c8]) = some y1 := hx 1 _ rfl
 rw [Tryz.cellsSn] at q1
 obtain ⟨sd, es, ws⟩ := sn_of_cells rfl q1
 obtain ⟨six, stm, psv, nsv, dsv, sv, psd, nsd, dsd, sd⟩ := sd
 simp [snC] at es
 obtain ⟨rfl, rfl, rfl, rfl⟩ := es
 have q2 : DataW.trod enc Tryz.prog W 0 (fun _ => true) true n0 3 (List.take (Tryz.prog.cellsOf 3) [c5, c6, c7, c8]) = some y2 := hx 2 _ rfl
 rw [Tryz.cells3] at q2
 obtain ⟨size, e2, -, w2⟩ := DataW.trod_int Tryz.underlying3 q2
 simp at e2
 subst e2
 have q3 : DataW.trod enc Tryz.prog W 0 (fun _ => true) true n0 3 (List.take (Tryz.prog.cellsOf 3) [c6, c7, c8]) = some y3 := hx 3 _ rfl
 rw [Tryz.cells3] at q3
 obtain ⟨n, e3, -, w3⟩ := DataW.trod_int Tryz.underlying3 q3
 simp at e3
 subst e3
 have q4 : DataW.trod enc Tryz.prog W 0 (fun _ => true) true n0 3 (List.take (Tryz.prog.cellsOf 3) [c7, c8]) = some y4 := hx 4 _ rfl
 rw [Tryz.cells3] at q4
 obtain ⟨keep, e4, -, w4⟩ := DataW.trod_int Tryz.underlying3 q4
 simp at e4
 subst e4
 have q5 : DataW.trod enc Tryz.prog W 0 (fun _ => true) true n0 3 (List.take (Tryz.prog.cellsOf 3) [c8]) = some y5 := hx 5 _ rfl
 rw [Tryz.cells3] at q5
 obtain ⟨tear, e5, -, w5⟩ := DataW.trod_int Tryz.underlying3 q5
 simp at e5
 subst e5
 exact ⟨⟨op, six, stm, psv, nsv, dsv, sv, psd, nsd, dsd, sd, size, n, keep, tear⟩, rfl, ⟨fits_wf w0, ws.h2, ws.h3, ws.h0, ws.h1, fits_wf w2, fits_wf w3, fits_wf w4, fits_wf w5⟩⟩
def Ddos (w : World) (v : Value) (D : List Ddo) : Prop := ∃ (p : Option Addr) (c : Nat), v = .slice p D.length c ∧ D.length ≤ c ∧ c ≤ maxLen ∧ ∀ (k : Nat) d, D[k]? = some d → ∃ g o, p = some ⟨g, o, none⟩ ∧ DdoIn w d ∧ ∀ (j : Nat) x, (doC d)[j]? = some x → w.cell? ⟨g, o + k * 9 + j, none⟩ = some x
instance : Inhabited Ddo := ⟨⟨0, 0, 0, none, 0, 0, [], none, 0, 0, [], 0, 0, 0, 0⟩⟩
theorem dos_of_arg {H : Type} {enc : TypeId × Value → H} {W : World} {a0 : Option Addr} {len cap : Nat} {d0 : DataW H} {p0 : List MemPlace}
  (h : DataW.Trod enc Tryz.prog W 0 (fun _ => true) true 22 (.slice a0 len cap) d0 p0) : ∃ D : List Ddo, D.length = len ∧ Ddos W (.slice a0 len cap) D := by
 obtain ⟨fuel, hf⟩ := h
 rcases DataW.trod_slice Tryz.underlying22 hf with ⟨hcs, _⟩ | ⟨a, len', cap', elems, rest, n, hx0, hcs, hd, -, hl, hm, hel, hx, -, -⟩
 ·simp [Value.cells] at hcs
  obtain ⟨rfl, rfl, rfl⟩ := hcs
  exact ⟨[], rfl, ⟨none, 0, rfl, Nat.le_refl _, by simp [maxLen], fun i d hd => by simp at hd⟩⟩
 ·simp [Value.cells] at hcs
  obtain ⟨rfl, rfl, rfl⟩ := hcs
  rw [Tryz.cellsDo] at hx
  have each0 : ∀ i, (hi : i < len) → ∃ d : Ddo, (∀ k, k < 9 → W.cell? ((a.add (i * 9)).add k) = (doC d)[k]?) ∧ DdoIn W d := fun i hi => by
   have h1 := hx i hi
   rw [List.getElem?_eq_getElem (by omega)] at h1
   obtain ⟨cs, h2, h3⟩ := Option.bind_eq_some_iff.1 h1
   obtain ⟨hb, hcl, hcell⟩ := World.cells?_some h2
   obtain ⟨d, rfl, hw⟩ := do_of_cells hcl h3
   exact ⟨d, fun k hk => hcell k hk, hw⟩
  rcases Nat.eq_zero_or_pos len with h0 | h0
  ·subst h0
   exact ⟨[], rfl, ⟨some a, cap, rfl, hl, hm, fun i d hd => by simp at hd⟩⟩
  have hsp : a.spot = none := by
   obtain ⟨d, hc, _⟩ := each0 0 h0
   have z0 := World.cell?_spot (show W.cell? _ = some (.int .i64 d.op) from hc 0 (by omega))
   simp [Addr.add] at z0
   exact z0
  obtain ⟨g, o, spot⟩ := a
  obtain rfl : spot = none := hsp
  have each : ∀ i, i < len → ∃ d : Ddo, (∀ k u, (doC d)[k]? = some u → W.cell? ⟨g, o + i * 9 + k, none⟩ = some u) ∧ DdoIn W d := fun i hi => by
   obtain ⟨d, hc, h2⟩ := each0 i hi
   refine ⟨d, fun k u hk => ?_, h2⟩
   have hk4 : k < 9 := by
    have := (List.getElem?_eq_some_iff.1 hk).1
    rwa [doC_length] at this
   have := hc k hk4
   rw [add_lit0, add_lit0] at this
   rw [this]
   exact hk
  refine ⟨(List.range len).map fun i => if h : i < len then (each i h).choose else default, by simp, ⟨some ⟨g, o, none⟩, cap, by simp, by simpa using hl, hm, fun i d hi => ?_⟩⟩
  have hlt : i < len := by
   have := (List.getElem?_eq_some_iff.1 hi).1
   simpa using this
  rw [List.getElem?_map, List.getElem?_range hlt, Option.map_some, dif_pos hlt] at hi
  injection hi with hi
  subst hi
  exact ⟨g, o, rfl, (each i hlt).choose_spec.2, (each i hlt).choose_spec.1⟩
structure Dpt where
 ix : Int
 tm : Int
 at_ : Int
 pb : Option Addr
 nb : Nat
 db : Nat
 b : List UInt8
 dn : Bool
instance : Inhabited Dpt := ⟨⟨0, 0, 0, none, 0, 0, [], false⟩⟩
structure Dfi where
 nm : ByteArray
 pb : Option Addr
 nb : Nat
 db : Nat
 b : List UInt8
def fiC (d : Dfi) : List Value := [.string d.nm, .slice d.pb d.nb d.db]
theorem fiC_length (d : Dfi) : (fiC d).length = 2 := rfl
structure DfiIn (W : World) (d : Dfi) : Prop where
 h0 : d.nm.size ≤ maxLen
 h1 : By W (.slice d.pb d.nb d.db) d.b
theorem fi_of_cells {H : Type} {enc : TypeId × Value → H} {W : World} {cs : List Value} {fuel : Nat} {x : DataW H × List MemPlace} (hcs : cs.length = 2)
  (h : DataW.trod enc Tryz.prog W 0 (fun _ => true) true fuel 60 cs = some x) : ∃ d : Dfi, cs = fiC d ∧ DfiIn W d := by
 obtain ⟨xs, n0, -, hd1, -, hxl, hx⟩ := DataW.trod_struct Tryz.underlying60 h
 obtain ⟨c0, c1, rfl⟩ : ∃ c0 c1, cs = [c0, c1] := by
  rcases cs with _ | ⟨c0, _ | ⟨c1, _ | ⟨c2, r⟩⟩⟩
  all_goals first | (exfalso; simp at hcs; done) | exact ⟨_, _, rfl⟩
 obtain ⟨y0, y1, rfl⟩ : ∃ y0 y1, xs = [y0, y1] := by
  rcases xs with _ | ⟨c0, _ | ⟨c1, _ | ⟨c2, r⟩⟩⟩
  all_goals first | (exfalso; simp at hxl; done) | exact ⟨_, _, rfl⟩
 have q0 : DataW.trod enc Tryz.prog W 0 (fun _ => true) true n0 9 (List.take (Tryz.prog.cellsOf 9) [c0, c1]) = some y0 := hx 0 _ rfl
 rw [Tryz.cells9] at q0
 obtain ⟨nm, e0, -, w0⟩ := DataW.trod_string Tryz.underlying9 q0
 simp at e0
 subst e0
 have q1 : DataW.trod enc Tryz.prog W 0 (fun _ => true) true n0 40 (List.take (Tryz.prog.cellsOf 40) [c1]) = some y1 := hx 1 _ rfl
 rw [Tryz.cellsBys] at q1
 obtain ⟨pb, nb, db, e1⟩ := sl_cell Tryz.underlying40 (show DataW.trod enc Tryz.prog W 0 (fun _ => true) true n0 40 [c1] = _ from q1)
 subst e1
 obtain ⟨b, -, w1⟩ := by_of_arg (a0 := pb) (len := nb) (cap := db) (d0 := y1.1) (p0 := y1.2) (W := W) (enc := enc) ⟨n0, q1⟩
 exact ⟨⟨nm, pb, nb, db, b⟩, rfl, ⟨w0, w1⟩⟩
def Dfis (w : World) (v : Value) (D : List Dfi) : Prop := ∃ (p : Option Addr) (c : Nat), v = .slice p D.length c ∧ D.length ≤ c ∧ c ≤ maxLen ∧ ∀ (k : Nat) d, D[k]? = some d → ∃ g o, p = some ⟨g, o, none⟩ ∧ DfiIn w d ∧ ∀ (j : Nat) x, (fiC d)[j]? = some x → w.cell? ⟨g, o + k * 2 + j, none⟩ = some x
instance : Inhabited Dfi := ⟨⟨⟨#[]⟩, none, 0, 0, []⟩⟩
theorem fis_of_arg {H : Type} {enc : TypeId × Value → H} {W : World} {a0 : Option Addr} {len cap : Nat} {d0 : DataW H} {p0 : List MemPlace}
  (h : DataW.Trod enc Tryz.prog W 0 (fun _ => true) true 58 (.slice a0 len cap) d0 p0) : ∃ D : List Dfi, D.length = len ∧ Dfis W (.slice a0 len cap) D := by
 obtain ⟨fuel, hf⟩ := h
 rcases DataW.trod_slice Tryz.underlying58 hf with ⟨hcs, _⟩ | ⟨a, len', cap', elems, rest, n, hx0, hcs, hd, -, hl, hm, hel, hx, -, -⟩
 ·simp [Value.cells] at hcs
  obtain ⟨rfl, rfl, rfl⟩ := hcs
  exact ⟨[], rfl, ⟨none, 0, rfl, Nat.le_refl _, by simp [maxLen], fun i d hd => by simp at hd⟩⟩
 ·simp [Value.cells] at hcs
  obtain ⟨rfl, rfl, rfl⟩ := hcs
  rw [Tryz.cellsFi] at hx
  have each0 : ∀ i, (hi : i < len) → ∃ d : Dfi, (∀ k, k < 2 → W.cell? ((a.add (i * 2)).add k) = (fiC d)[k]?) ∧ DfiIn W d := fun i hi => by
   have h1 := hx i hi
   rw [List.getElem?_eq_getElem (by omega)] at h1
   obtain ⟨cs, h2, h3⟩ := Option.bind_eq_some_iff.1 h1
   obtain ⟨hb, hcl, hcell⟩ := World.cells?_some h2
   obtain ⟨d, rfl, hw⟩ := fi_of_cells hcl h3
   exact ⟨d, fun k hk => hcell k hk, hw⟩
  rcases Nat.eq_zero_or_pos len with h0 | h0
  ·subst h0
   exact ⟨[], rfl, ⟨some a, cap, rfl, hl, hm, fun i d hd => by simp at hd⟩⟩
  have hsp : a.spot = none := by
   obtain ⟨d, hc, _⟩ := each0 0 h0
   have z0 := World.cell?_spot (show W.cell? _ = some (.string d.nm) from hc 0 (by omega))
   simp [Addr.add] at z0
   exact z0
  obtain ⟨g, o, spot⟩ := a
  obtain rfl : spot = none := hsp
  have each : ∀ i, i < len → ∃ d : Dfi, (∀ k u, (fiC d)[k]? = some u → W.cell? ⟨g, o + i * 2 + k, none⟩ = some u) ∧ DfiIn W d := fun i hi => by
   obtain ⟨d, hc, h2⟩ := each0 i hi
   refine ⟨d, fun k u hk => ?_, h2⟩
   have hk4 : k < 2 := by
    have := (List.getElem?_eq_some_iff.1 hk).1
    rwa [fiC_length] at this
   have := hc k hk4
   rw [add_lit0, add_lit0] at this
   rw [this]
   exact hk
  refine ⟨(List.range len).map fun i => if h : i < len then (each i h).choose else default, by simp, ⟨some ⟨g, o, none⟩, cap, by simp, by simpa using hl, hm, fun i d hi => ?_⟩⟩
  have hlt : i < len := by
   have := (List.getElem?_eq_some_iff.1 hi).1
   simpa using this
  rw [List.getElem?_map, List.getElem?_range hlt, Option.map_some, dif_pos hlt] at hi
  injection hi with hi
  subst hi
  exact ⟨g, o, rfl, (each i hlt).choose_spec.2, (each i hlt).choose_spec.1⟩
end Go.Proofs.YtgbdjcekpdfpjaaGreatDoor
namespace Go.Proofs.YtgbdjcekpdfpjaaGreatDoor
open Go.ChangeShapes Go.WideShapes Go.RowKit
theorem Tryz.own : ownKnob Tryz.prog.godebug = none := by kernel_rfl
def laidL : List (String × DataW Unit) := [("math/bits.deBruijn32tab", Rows.laid_math_bits_deBruijn32tab), ("math/bits.deBruijn64tab", Rows.laid_math_bits_deBruijn64tab), ("internal/strconv.uint64pow10", Rows.laid_internal_strconv_uint64pow10)]
theorem pow10_is : (Rows.laid_internal_strconv_uint64pow10 : DataW Unit) = Lib.tabData .u64 Lib.pow10Tab := by rfl
theorem Tryz.powG : ∃ g t e n, Tryz.prog.globalNamed "internal/strconv.uint64pow10" = some g ∧ (Tryz.prog.globals[g]?).map (·.type) = some t ∧ Tryz.prog.underlying t = some (.array n e) ∧ Tryz.prog.underlying e = some (.int .u64) ∧ Tryz.prog.cellsOf e = 1 ∧ Tryz.prog.cellsOf t = n :=
 ⟨1, 214, 196, 20, by kernel_rfl, by kernel_rfl, by kernel_rfl, by kernel_rfl, by kernel_rfl, by kernel_rfl⟩
theorem tab_of_laid {W : World} (h : laidMetH Tryz.prog laidL W) : Tab W := by
 have h' : laidMet Tryz.prog laidL W := h
 have h3 := (h'.tail).tail
 obtain ⟨g, t, e, n, h1, h2, k3, k4, k5, k6⟩ := Tryz.powG
 rw [pow10_is] at h3
 exact Lib.tabIs_of_head h1 h2 k3 k4 k5 k6 h3
noncomputable def laidWorld (os : Os) : World :=
 let w0 := World.holding Tryz.prog os ⟨#[], #[], []⟩
 let s (k : IntKind) (zs : List Int) (h : Array Obj) (g : Nat) : Array Obj := h.modify g fun
   | .cells _ t frozen => .cells (zs.map (Value.int k)).toArray t frozen
   | o => o
 { w0 with heap := s .u8 [0, 1, 56, 2, 57, 49, 28, 3, 61, 58, 42, 50, 38, 29, 17, 4, 62, 47, 59, 36, 45, 43, 51, 22, 53, 39, 33, 30, 24, 18, 12, 5, 63, 55, 48, 27, 60, 41, 37, 16, 46, 35, 44, 21, 52, 32, 23, 11, 54, 26, 40, 15, 34, 20, 31, 10, 25, 14, 19, 9, 13, 8, 7, 6] (s .u8 [0, 1, 28, 2, 29, 14, 24, 3, 30, 22, 20, 15, 25, 17, 4, 8, 31, 27, 13, 23, 21, 19, 16, 7, 26, 12, 18, 6, 11, 5, 10, 9] (s .u64 Lib.pow10Tab w0.heap 1) 2) 3 }
theorem laidWorld_met (os : Os) (args : Array Value) : laidMetH Tryz.prog laidL ((laidWorld os).forCall (fun _ _ => 0) ⟨#[], args, []⟩).memory :=
 laidMetH_of_parts (laidMet_of_run' 8 (by kernel_rfl) (by kernel_rfl)) (by kernel_rfl)
end Go.Proofs.YtgbdjcekpdfpjaaGreatDoor
namespace Go.Proofs.YtgbdjcekpdfpjaaGreatDoor
set_option maxRecDepth 100000
set_option maxHeartbeats 4000000
open Go.RowKit
theorem make_bytes (w : World) (n : Nat) (hn : n ≤ 16777216) : ∃ w1, (Instr.makeSlice 40 (.int .i64 (n : Int)) (.int .i64 (n : Int))).run Tryz.prog w = .ok (.slice (some ⟨w.heap.size, 0, none⟩) n n) w1 ∧ Own w.heap.size w1 (.slice (some ⟨w.heap.size, 0, none⟩) n n) (List.replicate n 0) ∧ Below w.heap.size w w1 ∧ w.heap.size < w1.heap.size := by
 obtain ⟨i0, hi0, hz0, hz1, hz2⟩ := info_parts Tryz.info5
 obtain ⟨w1, hmk, hrow, hg1⟩ := run_makeSlice_full (P := Tryz.prog) w w.heap.size 40 5 i0 (.int .u8 0) 1 Tryz.underlying40 hi0 hz0 hz1 .i64 .i64 n (by omega) (by rw [hz2]; omega) (by unfold maxLen; omega) (Nat.le_refl _)
 have hcells : (madeCells (Value.cells (.int .u8 0)) (n * 1)).toList = (List.replicate n (0 : UInt8)).map bv := by
  apply List.ext_getElem (by simp [madeCells])
  intro i h1 h2
  simp [madeCells, Value.cells, Nat.mod_one, bv]
 rw [hcells] at hrow
 have hb : Below w.heap.size w w1 := ⟨hg1.os, hg1.tape, hg1.output, hg1.size, fun k hk => hg1.block k hk (by simp)⟩
 have hlt : w.heap.size < w1.heap.size := (World.ownsRow.lt hrow _ rfl).2
 exact ⟨w1, hmk, Own.of_row (by simpa using hrow), hb, hlt⟩
def oneS (ix : Int) (n : Nat) : Sn := ⟨ix, 1, [0, 1], List.replicate n 0⟩
def OnP (w : World) (s : Sn) (e : Ending) (w' : World) : Prop := ∃ v, e = .returned v ∧ SnO w.heap.size w' v s ∧ Below w.heap.size w w'
theorem one_any {w : World} {ix : Int} (hx : Go.Proofs.YtgbdjcekpdfpjaaGreatDoor.fits ix) {n : Nat} (hn : n ≤ 1000000) : Calls Tryz.prog 42 #[.int .i64 ix, .int .i64 n] w (OnP w (oneS ix n)) := by
 have hmk := fun W => make_bytes W n (by omega)
 obtain ⟨X, hX⟩ : ∃ X, (w.alloc (.cells #[.int .i64 0, .int .i64 0, .slice none 0 0, .slice none 0 0] 42)).alloc (.cells #[.int .i64 0, .int .i64 1] 3) = X := ⟨_, rfl⟩
 obtain ⟨w1, hm1, ho1, hb1, hl1⟩ := hmk X
 have hbX : Below w.heap.size w X := by rw [← hX]; exact balloc (balloc (Below.refl _ _) _) _
 have hsX : X.heap.size = w.heap.size + 2 := by rw [← hX]; simp
 have hrA : X.heap[w.heap.size]? = some (.cells #[.int .i64 0, .int .i64 0, .slice none 0 0, .slice none 0 0] 42 (0, 0)) := by
  rw [← hX]; exact (Below.heap_alloc _ _ _ (by simp)).trans Array.getElem?_push_size
 have hrB : X.heap[w.heap.size + 1]? = some (.cells #[.int .i64 0, .int .i64 1] 3 (0, 0)) := by
  rw [← hX]
  have := World.alloc_heap_new (w.alloc (.cells #[.int .i64 0, .int .i64 0, .slice none 0 0, .slice none 0 0] 42)) (.cells #[.int .i64 0, .int .i64 1] 3)
  simpa using this
 have hr1 := (hb1.block w.heap.size (by omega)).trans hrA
 have hr2 := (hb1.block (w.heap.size + 1) (by omega)).trans hrB
 have z0 : w1.cell? ⟨w.heap.size, 0, none⟩ = some (.int .i64 0) := by rw [cell_of_row w1 _ 0 _ _ (0, 0) hr1]; rfl
 have z1 : w1.cell? ⟨w.heap.size, 1, none⟩ = some (.int .i64 0) := by rw [cell_of_row w1 _ 1 _ _ (0, 0) hr1]; rfl
 have z2 : w1.cell? ⟨w.heap.size, 2, none⟩ = some (.slice none 0 0) := by rw [cell_of_row w1 _ 2 _ _ (0, 0) hr1]; rfl
 have z3 : w1.cell? ⟨w.heap.size, 3, none⟩ = some (.slice none 0 0) := by rw [cell_of_row w1 _ 3 _ _ (0, 0) hr1]; rfl
 have u0 := frozen_of_row w1 w.heap.size 0 _ _ hr1
 have u1 := frozen_of_row w1 w.heap.size 1 _ _ hr1
 have u2 := frozen_of_row w1 w.heap.size 2 _ _ hr1
 have u3 := frozen_of_row w1 w.heap.size 3 _ _ hr1
 obtain ⟨hq1, hq2⟩ := set4 (.int .i64 ix) (.int .i64 1) (.slice (some ⟨w.heap.size + 1, 0, none⟩) 2 2) (.slice (some ⟨X.heap.size, 0, none⟩) n n) hr1
 obtain ⟨F, hF⟩ : ∃ F, ((((w1.setCell ⟨w.heap.size, 0, none⟩ (.int .i64 ix)).setCell ⟨w.heap.size, 1, none⟩ (.int .i64 1)).setCell ⟨w.heap.size, 2, none⟩ (.slice (some ⟨w.heap.size + 1, 0, none⟩) 2 2)).setCell ⟨w.heap.size, 3, none⟩ (.slice (some ⟨X.heap.size, 0, none⟩) n n)) = F := ⟨_, rfl⟩
 rw [hF] at hq1 hq2
 have v0 : F.cell? ⟨w.heap.size, 0, none⟩ = some (.int .i64 ix) := by rw [cell_of_row F _ 0 _ _ (0, 0) hq1]; rfl
 have v1 : F.cell? ⟨w.heap.size, 1, none⟩ = some (.int .i64 1) := by rw [cell_of_row F _ 1 _ _ (0, 0) hq1]; rfl
 have v2 : F.cell? ⟨w.heap.size, 2, none⟩ = some (.slice (some ⟨w.heap.size + 1, 0, none⟩) 2 2) := by rw [cell_of_row F _ 2 _ _ (0, 0) hq1]; rfl
 have v3 : F.cell? ⟨w.heap.size, 3, none⟩ = some (.slice (some ⟨X.heap.size, 0, none⟩) n n) := by rw [cell_of_row F _ 3 _ _ (0, 0) hq1]; rfl
 have hr3 := (hq2.block (w.heap.size + 1) (Array.getElem?_eq_some_iff.1 hr2).1 (by omega)).trans hr2
 have hsn : SnO w.heap.size F (.agg #[.int .i64 ix, .int .i64 1, .slice (some ⟨w.heap.size + 1, 0, none⟩) 2 2, .slice (some ⟨X.heap.size, 0, none⟩) n n]) (oneS ix n) := by
  refine ⟨_, _, rfl, ⟨⟨rfl, .inr ⟨w.heap.size + 1, 2, _, rfl, by omega, hr3, Nat.le_refl 2, by unfold maxLen; omega, rfl, rfl⟩⟩, ?_⟩, (ho1.chg hq2 (fun k e => by omega)).mono (by omega), hx, by show Go.Proofs.YtgbdjcekpdfpjaaGreatDoor.fits 1; unfold Go.Proofs.YtgbdjcekpdfpjaaGreatDoor.fits; decide⟩
  intro x hx
  have : x = 0 ∨ x = 1 := by simpa [oneS] using hx
  unfold Go.Proofs.YtgbdjcekpdfpjaaGreatDoor.fits
  omega
 have HSN := hide hsn
 have HBF := hide (Chg.to_below (hbX.trans (hb1.mono hbX.size)) hq2 (fun k e => by omega))
 clear hbX hsX hrA hrB hr1 hr2 hq1 hq2 hr3 hsn ho1 hb1 hmk
 go_enter Tryz.func42, Tryz.ntmps42
 go_wp2
 refine bodyPost_ret (v := .agg #[.int .i64 ix, .int .i64 1, .slice (some ⟨w.heap.size + 1, 0, none⟩) 2 2, .slice (some ⟨X.heap.size, 0, none⟩) n n]) (by simp [results, Tryz.results42, go_sem, v0, v1, v2, v3]) rfl ?_
 exact ⟨_, rfl, HSN.out, HBF.out⟩
theorem new_openV (r : Nat) : (Dk.new r).openV = (0, Dk.new r) := rfl
def BgP (w : World) (r : Nat) (e : Ending) (w' : World) : Prop := ∃ d b, e = .returned (.tuple #[.pointer (some ⟨d, 0, none⟩), .pointer (some ⟨b, 0, none⟩), .bool true]) ∧ Vo w w' (fun _ => False) b d sn0 (Dk.new r)
theorem begun_any {w : World} (ht : Tab w) {r : Nat} (hr : r ≤ 16777216) : Calls Tryz.prog 33 #[.int .i64 r] w (BgP w r) := by
 have HT := hide ht
 have HN := hide (new_any w hr)
 clear ht
 go_enter Tryz.func33, Tryz.ntmps33
 go_wp2_with (first
  | (go_at_call 13; refine HN.out.mono ?_; rintro e w1 ⟨g, S, rfl, hd1, hS, hb1⟩; have HOP := hide (open_disk (K := fun _ => False) hd1 hb1 hS (fun i h => h.elim) HT.out (Dk.Fine.new hr) (by omega) (by omega)); clear hd1 hS hb1)
  | (go_at_call 15; refine HOP.out.mono ?_; rintro e w2 (⟨k1, k2⟩ | ⟨k1, b, rfl, k2, k3⟩); (rw [new_openV] at k1; exact absurd rfl k1)))
 refine bodyPost_ret (v := .tuple #[.pointer (some ⟨g, 0, none⟩), .pointer (some ⟨b, 0, none⟩), .bool true]) (by simp [results, Tryz.results33, go_sem]) rfl ?_
 exact ⟨g, b, rfl, k2⟩
end Go.Proofs.YtgbdjcekpdfpjaaGreatDoor
