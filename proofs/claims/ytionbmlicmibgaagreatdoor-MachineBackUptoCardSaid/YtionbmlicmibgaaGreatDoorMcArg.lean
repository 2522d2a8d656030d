import Derived.Test.YtionbmlicmibgaaGreatDoorSpArg
import Derived.Test.YtionbmlicmibgaaGreatDoorRows
import Derived.Test.YtionbmlicmibgaaGreatDoorMcChk
namespace Go.Proofs.YtionbmlicmibgaaGreatDoor
set_option linter.unusedVariables false
set_option linter.unusedSimpArgs false
open Go.RowKit Go.Deep Go.ChangeShapes
theorem ns_of_arg {H : Type} {enc : TypeId × Value → H} {W : World} {a0 : Option Addr} {len cap : Nat} {d0 : DataW H} {p0 : List MemPlace}
  (h : DataW.Trod enc Tryz.prog W 0 (fun _ => true) true 23 (.slice a0 len cap) d0 p0) : ∃ l : List Int, Ns W (.slice a0 len cap) l := by
 obtain ⟨fuel, hf⟩ := h
 rcases open_ints Tryz.underlying23 Tryz.underlying3 Tryz.cells3 hf with ⟨hcs, _⟩ | ⟨x, l, c, zs, hcs, _, hl, hm, hz, _, hcell, hwz⟩
 ·simp [Value.cells] at hcs
  obtain ⟨rfl, rfl, rfl⟩ := hcs
  exact ⟨[], Ns.nil _⟩
 ·simp [Value.cells] at hcs
  obtain ⟨rfl, rfl, rfl⟩ := hcs
  have hzl : zs.length = cap := by simpa using hz
  refine ⟨zs.take len, some x, cap, by rw [List.length_take, Nat.min_eq_left (by omega)], by rw [List.length_take]; omega, hm, (fun e => by cases e), fun z hzm => ?_, fun h0 => ?_⟩
  ·have hw := hwz z (List.mem_of_mem_take hzm)
   have h1 : IntKind.i64.min = -9223372036854775808 := rfl
   have h2 : IntKind.i64.max = 9223372036854775807 := rfl
   simp only [Lit.wf, Bool.and_eq_true, decide_eq_true_eq] at hw
   unfold fits
   omega
  ·rw [List.length_take] at h0
   have hsp := World.cell?_spot (hcell 0 (by omega))
   obtain ⟨b, o, spot⟩ := x
   have hsp0 : spot = none := by
    unfold Addr.add at hsp
    rw [if_pos rfl] at hsp
    exact hsp
   subst hsp0
   refine ⟨b, o, rfl, fun i z hi => ?_⟩
   have hil := (List.getElem?_eq_some_iff.1 hi).1
   rw [List.length_take] at hil
   rw [List.getElem?_take_of_lt (by omega)] at hi
   have hc := hcell i (by omega)
   have hg : zs.getD i 0 = z := by simp [List.getD, hi]
   rw [hg, add_lit0] at hc
   exact hc
theorem fits_wf {x : Int} (h : (Lit.int .i64 x).wf = true) : fits x := by
 have h1 : IntKind.i64.min = -9223372036854775808 := rfl
 have h2 : IntKind.i64.max = 9223372036854775807 := rfl
 simp only [Lit.wf, Bool.and_eq_true, decide_eq_true_eq] at h
 unfold fits
 omega
theorem bulk_one {H : Type} (d : DataW H) : 1 ≤ Rows.uptoBulk d := by
 cases d with
 | lit l => cases l <;> simp [Rows.uptoBulk]
 | nil => simp [Rows.uptoBulk]
 | ptr d => simp [Rows.uptoBulk]
 | slice elems spare => simp [Rows.uptoBulk]
 | agg parts => simp [Rows.uptoBulk]
 | iface t d => simp [Rows.uptoBulk]
 | map entries => simp [Rows.uptoBulk]
 | held h => simp [Rows.uptoBulk]
theorem bulk_part {H : Type} {d : DataW H} {l : List (DataW H)} (h : d ∈ l) : Rows.uptoBulk d ≤ Rows.uptoBulkAll l := by
 induction l with
 | nil => cases h
 | cons x r ih =>
  simp only [Rows.uptoBulkAll]
  cases List.mem_cons.1 h with
  | inl e => subst e; omega
  | inr e => have := ih e; omega
theorem bulk_len {H : Type} (l : List (DataW H)) : l.length ≤ Rows.uptoBulkAll l := by
 induction l with
 | nil => simp [Rows.uptoBulkAll]
 | cons x r ih => have := bulk_one x; simp only [Rows.uptoBulkAll, List.length_cons]; omega
theorem sl_bulk {H : Type} {enc : TypeId × Value → H} {W : World} {ty e : TypeId} {p : Option Addr} {n c : Nat} {fuel : Nat} {x : DataW H × List MemPlace} (hu : Tryz.prog.underlying ty = some (.slice e)) (h : DataW.trod enc Tryz.prog W 0 (fun _ => true) true fuel ty [.slice p n c] = some x) : n ≤ Rows.uptoBulk x.1 := by
 rcases DataW.trod_slice hu h with ⟨hcs, _⟩ | ⟨a, len, cap, elems, rest, n0, -, hcs, hd, -, hl, hm, hel, hx, -, -⟩
 ·simp at hcs
  omega
 ·simp at hcs
  obtain ⟨_, rfl, _⟩ := hcs
  rw [hd]
  have := bulk_len (elems.map (·.1))
  simp only [Rows.uptoBulk, List.length_map] at *
  omega
theorem Tryz.cellsSps : Tryz.prog.cellsOf 22 = 1 := by kernel_rfl
theorem Tryz.cellsIns : Tryz.prog.cellsOf 23 = 1 := by kernel_rfl
theorem Tryz.cellsBys : Tryz.prog.cellsOf 32 = 1 := by kernel_rfl
theorem Tryz.cellsCm : Tryz.prog.cellsOf 25 = 6 := by kernel_rfl
theorem Tryz.cellsEt : Tryz.prog.cellsOf 55 = 3 := by kernel_rfl
theorem Tryz.cellsDo : Tryz.prog.cellsOf 57 = 11 := by kernel_rfl
theorem sl_cell {H : Type} {enc : TypeId × Value → H} {W : World} {ty e : TypeId} {c : Value} {fuel : Nat} {x : DataW H × List MemPlace} (hu : Tryz.prog.underlying ty = some (.slice e)) (h : DataW.trod enc Tryz.prog W 0 (fun _ => true) true fuel ty [c] = some x) : ∃ p n d, c = .slice p n d := by
 rcases DataW.trod_slice hu h with ⟨hcs', _⟩ | ⟨a, len', cap', elems, rest, n, -, hcs', _⟩
 ·simp at hcs'
  exact ⟨_, _, _, hcs'⟩
 ·simp at hcs'
  exact ⟨_, _, _, hcs'⟩
set_option maxRecDepth 200000 in
theorem cm_of_cells {H : Type} {enc : TypeId × Value → H} {W : World} {cs : List Value} {fuel : Nat} {x : DataW H × List MemPlace} (hcs : cs.length = 6)
  (h : DataW.trod enc Tryz.prog W 0 (fun _ => true) true fuel 25 cs = some x) : ∃ k se sq a psp nsp dsp pvo nvo dvo sp vo, cs = [.int .i64 k, .int .i64 se, .int .i64 sq, .int .i64 a, .slice psp nsp dsp, .slice pvo nvo dvo] ∧ Sps W (.slice psp nsp dsp) sp ∧ (∀ y ∈ sp, y.n.size ≤ maxLen) ∧ Ns W (.slice pvo nvo dvo) vo ∧ (fits k ∧ fits se ∧ fits sq ∧ fits a) := by
 obtain ⟨xs, n0, -, hd1, -, hxl, hx⟩ := DataW.trod_struct Tryz.underlying25 h
 obtain ⟨c0, c1, c2, c3, c4, c5, rfl⟩ : ∃ c0 c1 c2 c3 c4 c5, cs = [c0, c1, c2, c3, c4, c5] := by
  rcases cs with _ | ⟨c0, _ | ⟨c1, _ | ⟨c2, _ | ⟨c3, _ | ⟨c4, _ | ⟨c5, _ | ⟨c6, r⟩⟩⟩⟩⟩⟩⟩
  all_goals first | (exfalso; simp at hcs; done) | exact ⟨_, _, _, _, _, _, rfl⟩
 obtain ⟨y0, y1, y2, y3, y4, y5, rfl⟩ : ∃ y0 y1 y2 y3 y4 y5, xs = [y0, y1, y2, y3, y4, y5] := by
  rcases xs with _ | ⟨c0, _ | ⟨c1, _ | ⟨c2, _ | ⟨c3, _ | ⟨c4, _ | ⟨c5, _ | ⟨c6, r⟩⟩⟩⟩⟩⟩⟩
  all_goals first | (exfalso; simp at hxl; done) | exact ⟨_, _, _, _, _, _, rfl⟩
 have q0 : DataW.trod enc Tryz.prog W 0 (fun _ => true) true n0 3 (List.take (Tryz.prog.cellsOf 3) [c0, c1, c2, c3, c4, c5]) = some y0 := hx 0 _ rfl
 rw [Tryz.cells3] at q0
 obtain ⟨k, e0, -, w0⟩ := DataW.trod_int Tryz.underlying3 q0
 simp at e0
 subst e0
 have q1 : DataW.trod enc Tryz.prog W 0 (fun _ => true) true n0 3 (List.take (Tryz.prog.cellsOf 3) [c1, c2, c3, c4, c5]) = some y1 := hx 1 _ rfl
 rw [Tryz.cells3] at q1
 obtain ⟨se, e1, -, w1⟩ := DataW.trod_int Tryz.underlying3 q1
 simp at e1
 subst e1
 have q2 : DataW.trod enc Tryz.prog W 0 (fun _ => true) true n0 3 (List.take (Tryz.prog.cellsOf 3) [c2, c3, c4, c5]) = some y2 := hx 2 _ rfl
 rw [Tryz.cells3] at q2
 obtain ⟨sq, e2, -, w2⟩ := DataW.trod_int Tryz.underlying3 q2
 simp at e2
 subst e2
 have q3 : DataW.trod enc Tryz.prog W 0 (fun _ => true) true n0 3 (List.take (Tryz.prog.cellsOf 3) [c3, c4, c5]) = some y3 := hx 3 _ rfl
 rw [Tryz.cells3] at q3
 obtain ⟨a, e3, -, w3⟩ := DataW.trod_int Tryz.underlying3 q3
 simp at e3
 subst e3
 have q4 : DataW.trod enc Tryz.prog W 0 (fun _ => true) true n0 22 (List.take (Tryz.prog.cellsOf 22) [c4, c5]) = some y4 := hx 4 _ rfl
 rw [Tryz.cellsSps] at q4
 obtain ⟨psp, nsp, dsp, e4⟩ := sl_cell Tryz.underlying22 (show DataW.trod enc Tryz.prog W 0 (fun _ => true) true n0 22 [c4] = _ from q4)
 subst e4
 obtain ⟨sp, hsp⟩ := sps_of_arg (a0 := psp) (len := nsp) (cap := dsp) ⟨n0, q4⟩
 have q5 : DataW.trod enc Tryz.prog W 0 (fun _ => true) true n0 23 (List.take (Tryz.prog.cellsOf 23) [c5]) = some y5 := hx 5 _ rfl
 rw [Tryz.cellsIns] at q5
 obtain ⟨pvo, nvo, dvo, e5⟩ := sl_cell Tryz.underlying23 (show DataW.trod enc Tryz.prog W 0 (fun _ => true) true n0 23 [c5] = _ from q5)
 subst e5
 obtain ⟨vo, hvo⟩ := ns_of_arg (a0 := pvo) (len := nvo) (cap := dvo) ⟨n0, q5⟩
 exact ⟨k, se, sq, a, psp, nsp, dsp, pvo, nvo, dvo, sp, vo, rfl, hsp.1, hsp.2, hvo, fits_wf w0, fits_wf w1, fits_wf w2, fits_wf w3⟩
set_option maxRecDepth 200000 in
theorem en_of_cells {H : Type} {enc : TypeId × Value → H} {W : World} {cs : List Value} {fuel : Nat} {x : DataW H × List MemPlace} (hcs : cs.length = 3)
  (h : DataW.trod enc Tryz.prog W 0 (fun _ => true) true fuel 55 cs = some x) : ∃ ei et p n d l, cs = [.int .i64 ei, .int .i64 et, .slice p n d] ∧ By W (.slice p n d) l ∧ fits ei ∧ fits et ∧ l.length ≤ Rows.uptoBulk x.1 := by
 obtain ⟨xs, n0, -, hd1, -, hxl, hx⟩ := DataW.trod_struct Tryz.underlying55 h
 obtain ⟨c0, c1, c2, rfl⟩ : ∃ c0 c1 c2, cs = [c0, c1, c2] := by
  rcases cs with _ | ⟨c0, _ | ⟨c1, _ | ⟨c2, _ | ⟨c3, r⟩⟩⟩⟩
  all_goals first | (exfalso; simp at hcs; done) | exact ⟨_, _, _, rfl⟩
 obtain ⟨y0, y1, y2, rfl⟩ : ∃ y0 y1 y2, xs = [y0, y1, y2] := by
  rcases xs with _ | ⟨c0, _ | ⟨c1, _ | ⟨c2, _ | ⟨c3, r⟩⟩⟩⟩
  all_goals first | (exfalso; simp at hxl; done) | exact ⟨_, _, _, rfl⟩
 have q0 : DataW.trod enc Tryz.prog W 0 (fun _ => true) true n0 3 (List.take (Tryz.prog.cellsOf 3) [c0, c1, c2]) = some y0 := hx 0 _ rfl
 rw [Tryz.cells3] at q0
 obtain ⟨ei, e0, -, w0⟩ := DataW.trod_int Tryz.underlying3 q0
 simp at e0
 subst e0
 have q1 : DataW.trod enc Tryz.prog W 0 (fun _ => true) true n0 3 (List.take (Tryz.prog.cellsOf 3) [c1, c2]) = some y1 := hx 1 _ rfl
 rw [Tryz.cells3] at q1
 obtain ⟨et, e1, -, w1⟩ := DataW.trod_int Tryz.underlying3 q1
 simp at e1
 subst e1
 have q2 : DataW.trod enc Tryz.prog W 0 (fun _ => true) true n0 32 (List.take (Tryz.prog.cellsOf 32) [c2]) = some y2 := hx 2 _ rfl
 rw [Tryz.cellsBys] at q2
 obtain ⟨pby_, nby_, dby_, e2⟩ := sl_cell Tryz.underlying32 (show DataW.trod enc Tryz.prog W 0 (fun _ => true) true n0 32 [c2] = _ from q2)
 subst e2
 obtain ⟨by_, hby_⟩ := by_of_arg (a0 := pby_) (len := nby_) (cap := dby_) ⟨n0, q2⟩
 have bk2 : by_.length ≤ Rows.uptoBulk x.1 := by
  have h1 := sl_bulk Tryz.underlying32 q2
  have h2 : Rows.uptoBulk y2.1 ≤ Rows.uptoBulkAll ([y0, y1, y2].map (·.1)) := bulk_part (by simp)
  rw [hd1]
  simp only [Rows.uptoBulk]
  have := hby_.1
  omega
 exact ⟨ei, et, pby_, nby_, dby_, by_, rfl, hby_.2, fits_wf w0, fits_wf w1, bk2⟩
structure Dm where
 op : Int
 k : Int
 se : Int
 sq : Int
 a : Int
 p1 : Option Addr
 n1 : Nat
 d1 : Nat
 p2 : Option Addr
 n2 : Nat
 d2 : Nat
 tm : Int
 ei : Int
 et : Int
 p3 : Option Addr
 n3 : Nat
 d3 : Nat
 sp : List Sp
 vo : List Int
 by_ : List UInt8
instance : Inhabited Dm := ⟨⟨0, 0, 0, 0, 0, none, 0, 0, none, 0, 0, 0, 0, 0, none, 0, 0, [], [], []⟩⟩
def Dm.c (d : Dm) : Cm := ⟨d.k, d.se, d.sq, d.a, d.sp, d.vo⟩
def dmC (d : Dm) : List Value := [.int .i64 d.op, .int .i64 d.k, .int .i64 d.se, .int .i64 d.sq, .int .i64 d.a, .slice d.p1 d.n1 d.d1, .slice d.p2 d.n2 d.d2, .int .i64 d.tm, .int .i64 d.ei, .int .i64 d.et, .slice d.p3 d.n3 d.d3]
theorem dmC_length (d : Dm) : (dmC d).length = 11 := rfl
structure DmIn (W : World) (d : Dm) : Prop where
 sp : Sps W (.slice d.p1 d.n1 d.d1) d.sp
 nm : ∀ y ∈ d.sp, y.n.size ≤ maxLen
 vo : Ns W (.slice d.p2 d.n2 d.d2) d.vo
 by_ : By W (.slice d.p3 d.n3 d.d3) d.by_
 f : fits d.op ∧ fits d.tm ∧ fits d.ei ∧ fits d.et
theorem DmIn.below {W W' : World} {d : Dm} (h : DmIn W d) (hb : Below W.heap.size W W') : DmIn W' d := ⟨h.sp.below hb, h.nm, h.vo.below hb, h.by_.below hb, h.f⟩
set_option maxRecDepth 200000 in
theorem dm_of_cells {H : Type} {enc : TypeId × Value → H} {W : World} {cs : List Value} {fuel : Nat} {x : DataW H × List MemPlace} (hcs : cs.length = 11)
  (h : DataW.trod enc Tryz.prog W 0 (fun _ => true) true fuel 57 cs = some x) : ∃ d : Dm, cs = dmC d ∧ DmIn W d ∧ d.by_.length ≤ Rows.uptoBulk x.1 := by
 obtain ⟨xs, n0, -, hd1, -, hxl, hx⟩ := DataW.trod_struct Tryz.underlying57 h
 obtain ⟨c0, c1, c2, c3, c4, c5, c6, c7, c8, c9, c10, rfl⟩ : ∃ c0 c1 c2 c3 c4 c5 c6 c7 c8 c9 c10, cs = [c0, c1, c2, c3, c4, c5, c6, c7, c8, c9, c10] := by
  rcases cs with _ | ⟨c0, _ | ⟨c1, _ | ⟨c2, _ | ⟨c3, _ | ⟨c4, _ | ⟨c5, _ | ⟨c6, _ | ⟨c7, _ | ⟨c8, _ | ⟨c9, _ | ⟨c10, _ | ⟨c11, r⟩⟩⟩⟩⟩⟩⟩⟩⟩⟩⟩⟩
  all_goals first | (exfalso; simp at hcs; done) | exact ⟨_, _, _, _, _, _, _, _, _, _, _, rfl⟩
 obtain ⟨y0, y1, y2, y3, rfl⟩ : ∃ y0 y1 y2 y3, xs = [y0, y1, y2, y3] := by
  rcases xs with _ | ⟨c0, _ | ⟨c1, _ | ⟨c2, _ | ⟨c3, _ | ⟨c4, r⟩⟩⟩⟩⟩
  all_goals first | (exfalso; simp at hxl; done) | exact ⟨_, _, _, _, rfl⟩
 have q0 : DataW.trod enc Tryz.prog W 0 (fun _ => true) true n0 3 (List.take (Tryz.prog.cellsOf 3) [c0, c1, c2, c3, c4, c5, c6, c7, c8, c9, c10]) = some y0 := hx 0 _ rfl
 rw [Tryz.cells3] at q0
 obtain ⟨op, e0, -, w0⟩ := DataW.trod_int Tryz.underlying3 q0
 simp at e0
 subst e0
 have q1 : DataW.trod enc Tryz.prog W 0 (fun _ => true) true n0 25 (List.take (Tryz.prog.cellsOf 25) [c1, c2, c3, c4, c5, c6, c7, c8, c9, c10]) = some y1 := hx 1 _ rfl
 rw [Tryz.cellsCm] at q1
 obtain ⟨k, se, sq, a, psp, nsp, dsp, pvo, nvo, dvo, sp, vo, ec, hsp, hnm, hvo, hf⟩ := cm_of_cells rfl q1
 simp at ec
 obtain ⟨rfl, rfl, rfl, rfl, rfl, rfl⟩ := ec
 have q2 : DataW.trod enc Tryz.prog W 0 (fun _ => true) true n0 3 (List.take (Tryz.prog.cellsOf 3) [c7, c8, c9, c10]) = some y2 := hx 2 _ rfl
 rw [Tryz.cells3] at q2
 obtain ⟨tm, e2, -, w2⟩ := DataW.trod_int Tryz.underlying3 q2
 simp at e2
 subst e2
 have q3 : DataW.trod enc Tryz.prog W 0 (fun _ => true) true n0 55 (List.take (Tryz.prog.cellsOf 55) [c8, c9, c10]) = some y3 := hx 3 _ rfl
 rw [Tryz.cellsEt] at q3
 obtain ⟨ei, et, pby, nby, dby, by_, ee, hby, hfe, hfe2, hbk⟩ := en_of_cells rfl q3
 simp at ee
 obtain ⟨rfl, rfl, rfl⟩ := ee
 have bk3 : by_.length ≤ Rows.uptoBulk x.1 := by
  have h2 : Rows.uptoBulk y3.1 ≤ Rows.uptoBulkAll ([y0, y1, y2, y3].map (·.1)) := bulk_part (by simp)
  rw [hd1]
  simp only [Rows.uptoBulk]
  omega
 exact ⟨⟨op, k, se, sq, a, psp, nsp, dsp, pvo, nvo, dvo, tm, ei, et, pby, nby, dby, sp, vo, by_⟩, rfl, ⟨hsp, hnm, hvo, hby, fits_wf w0, fits_wf w2, hfe, hfe2⟩, bk3⟩
def Dms (w : World) (v : Value) (D : List Dm) : Prop := ∃ (p : Option Addr) (c : Nat), v = .slice p D.length c ∧ D.length ≤ c ∧ c ≤ maxLen ∧ ∀ (k : Nat) d, D[k]? = some d → ∃ g o, p = some ⟨g, o, none⟩ ∧ DmIn w d ∧ ∀ (j : Nat) x, (dmC d)[j]? = some x → w.cell? ⟨g, o + k * 11 + j, none⟩ = some x
theorem Dms.below {w w' : World} {v : Value} {D : List Dm} (h : Dms w v D) (hb : Below w.heap.size w w') : Dms w' v D := by
 obtain ⟨p, c, e, h1, h2, h3⟩ := h
 refine ⟨p, c, e, h1, h2, fun k d hk => ?_⟩
 obtain ⟨g, o, e1, hm, hc⟩ := h3 k d hk
 exact ⟨g, o, e1, hm.below hb, fun j x hj => (hb.cell (lt_of_cell (hc j x hj))).trans (hc j x hj)⟩
set_option maxRecDepth 200000 in
theorem dms_of_arg {H : Type} {enc : TypeId × Value → H} {W : World} {a0 : Option Addr} {len cap : Nat} {d0 : DataW H} {p0 : List MemPlace}
  (h : DataW.Trod enc Tryz.prog W 0 (fun _ => true) true 45 (.slice a0 len cap) d0 p0) : ∃ D : List Dm, D.length = len ∧ Dms W (.slice a0 len cap) D ∧ ∀ d ∈ D, d.by_.length ≤ Rows.uptoBulk d0 := by
 obtain ⟨fuel, hf⟩ := h
 rcases DataW.trod_slice Tryz.underlying45 hf with ⟨hcs, _⟩ | ⟨a, len', cap', elems, rest, n, hx0, hcs, hd, -, hl, hm, hel, hx, -, -⟩
 ·simp [Value.cells] at hcs
  obtain ⟨rfl, rfl, rfl⟩ := hcs
  exact ⟨[], rfl, ⟨none, 0, rfl, Nat.le_refl _, by simp [maxLen], fun i d hd => by simp at hd⟩, fun d hd => by simp at hd⟩
 ·simp [Value.cells] at hcs
  obtain ⟨rfl, rfl, rfl⟩ := hcs
  rw [Tryz.cellsDo] at hx
  have hbk : ∀ i, (hi : i < len) → Rows.uptoBulk (elems[i]'(by omega)).1 ≤ Rows.uptoBulk d0 := fun i hi => by
   have h1 : Rows.uptoBulk (elems[i]'(by omega)).1 ≤ Rows.uptoBulkAll (elems.map (·.1)) := bulk_part (List.mem_map.2 ⟨_, List.getElem_mem _, rfl⟩)
   rw [show d0 = _ from congrArg Prod.fst hd]
   simp only [Rows.uptoBulk]
   omega
  have each0 : ∀ i, (hi : i < len) → ∃ d : Dm, (∀ k, k < 11 → W.cell? ((a.add (i * 11)).add k) = (dmC d)[k]?) ∧ DmIn W d ∧ d.by_.length ≤ Rows.uptoBulk d0 := fun i hi => by
   have h1 := hx i hi
   rw [List.getElem?_eq_getElem (by omega)] at h1
   obtain ⟨cs, h2, h3⟩ := Option.bind_eq_some_iff.1 h1
   obtain ⟨hb, hcl, hcell⟩ := World.cells?_some h2
   obtain ⟨d, rfl, hw, hz⟩ := dm_of_cells hcl h3
   exact ⟨d, fun k hk => hcell k hk, hw, Nat.le_trans hz (hbk i hi)⟩
  rcases Nat.eq_zero_or_pos len with h0 | h0
  ·subst h0
   exact ⟨[], rfl, ⟨some a, cap, rfl, hl, hm, fun i d hd => by simp at hd⟩, fun d hd => by simp at hd⟩
  have hsp : a.spot = none := by
   obtain ⟨d, hc, _⟩ := each0 0 h0
   have z0 := World.cell?_spot (show W.cell? _ = some (.int .i64 d.op) from hc 0 (by omega))
   simp [Addr.add] at z0
   exact z0
  obtain ⟨g, o, spot⟩ := a
  obtain rfl : spot = none := hsp
  have each : ∀ i, i < len → ∃ d : Dm, (∀ k u, (dmC d)[k]? = some u → W.cell? ⟨g, o + i * 11 + k, none⟩ = some u) ∧ DmIn W d ∧ d.by_.length ≤ Rows.uptoBulk d0 := fun i hi => by
   obtain ⟨d, hc, h2⟩ := each0 i hi
   refine ⟨d, fun k u hk => ?_, h2⟩
   have hk4 : k < 11 := by
    have := (List.getElem?_eq_some_iff.1 hk).1
    rwa [dmC_length] at this
   have := hc k hk4
   rw [add_lit0, add_lit0] at this
   rw [this]
   exact hk
  refine ⟨(List.range len).map fun i => if h : i < len then (each i h).choose else default, by simp, ⟨some ⟨g, o, none⟩, cap, by simp, by simpa using hl, hm, fun i d hi => ?_⟩, fun d hd => ?_⟩
  ·have hlt : i < len := by
    have := (List.getElem?_eq_some_iff.1 hi).1
    simpa using this
   rw [List.getElem?_map, List.getElem?_range hlt, Option.map_some, dif_pos hlt] at hi
   injection hi with hi
   subst hi
   exact ⟨g, o, rfl, (each i hlt).choose_spec.2.1, (each i hlt).choose_spec.1⟩
  ·obtain ⟨i, hi, rfl⟩ := List.mem_map.1 hd
   have hlt : i < len := List.mem_range.1 hi
   rw [dif_pos hlt]
   exact (each i hlt).choose_spec.2.2
end Go.Proofs.YtionbmlicmibgaaGreatDoor
