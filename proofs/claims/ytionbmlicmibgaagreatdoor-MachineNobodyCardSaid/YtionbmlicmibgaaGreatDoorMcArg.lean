/- Commands, entries and calls that came in as arguments. -/
import Derived.Test.YtionbmlicmibgaaGreatDoorSpArg
import Derived.Test.YtionbmlicmibgaaGreatDoorMcChk
namespace Go.Proofs.YtionbmlicmibgaaGreatDoor
set_option linter.unusedVariables false
set_option linter.unusedSimpArgs false
open Go.RowKit Go.Deep Go.ChangeShapes

theorem fits_wf {x : Int} (h : (Lit.int .i64 x).wf = true) : fits x := by
  have h1 : IntKind.i64.min = -9223372036854775808 := rfl
  have h2 : IntKind.i64.max = 9223372036854775807 := rfl
  simp only [Lit.wf, Bool.and_eq_true, decide_eq_true_eq] at h
  unfold fits
  omega
theorem Tryz.cellsBys : Tryz.prog.cellsOf 32 = 1 := by kernel_rfl
theorem Tryz.cellsEt : Tryz.prog.cellsOf 55 = 3 := by kernel_rfl
theorem sl_cell {H : Type} {enc : TypeId × Value → H} {W : World} {ty e : TypeId} {c : Value} {fuel : Nat} {x : DataW H × List MemPlace} (hu : Tryz.prog.underlying ty = some (.slice e)) (h : DataW.trod enc Tryz.prog W 0 (fun _ => true) true fuel ty [c] = some x) : ∃ p n d, c = .slice p n d := by
  rcases DataW.trod_slice hu h with ⟨hcs', _⟩ | ⟨a, len', cap', elems, rest, n, -, hcs', _⟩
  · simp at hcs'
    exact ⟨_, _, _, hcs'⟩
  · simp at hcs'
    exact ⟨_, _, _, hcs'⟩
set_option maxRecDepth 200000 in
theorem en_of_cells {H : Type} {enc : TypeId × Value → H} {W : World} {cs : List Value} {fuel : Nat} {x : DataW H × List MemPlace} (hcs : cs.length = 3)
    (h : DataW.trod enc Tryz.prog W 0 (fun _ => true) true fuel 55 cs = some x) : ∃ ei et p n d l, cs = [.int .i64 ei, .int .i64 et, .slice p n d] ∧ By W (.slice p n d) l ∧ fits ei ∧ fits et := by
  obtain ⟨xs, n0, -, -, -, hxl, hx⟩ := DataW.trod_struct Tryz.underlying55 h
  obtain ⟨c0, c1, c2, rfl⟩ : ∃ c0 c1 c2, cs = [c0, c1, c2] := by
    rcases cs with _ | ⟨c0, _ | ⟨c1, _ | ⟨c2, _ | ⟨c3, r⟩⟩⟩⟩
    all_goals first | (exfalso; simp at hcs; done) | exact ⟨_, _, _, rfl⟩
  obtain ⟨y0, y1, y2, rfl⟩ : ∃ y0 y1 y2, xs = [y0, y1, y2] := by
    rcases xs with _ | ⟨c0, _ | ⟨c1, _ | ⟨c2, _ | ⟨c3, r⟩⟩⟩⟩
    all_goals first | (exfalso; simp at hxl; done) | exact ⟨_, _, _, rfl⟩
  have q0 : DataW.trod enc Tryz.prog W 0 (fun _ => true) true n0 3 (List.take (Tryz.prog.cellsOf 3) [c0, c1, c2]) = some y0 := hx 0 _ rfl
  rw [Tryz.cells3] at q0
  obtain ⟨ei, e0, -, w0⟩ := DataW.trod_int Tryz.underlying3 q0
  simp at e0
  subst e0
  have q1 : DataW.trod enc Tryz.prog W 0 (fun _ => true) true n0 3 (List.take (Tryz.prog.cellsOf 3) [c1, c2]) = some y1 := hx 1 _ rfl
  rw [Tryz.cells3] at q1
  obtain ⟨et, e1, -, w1⟩ := DataW.trod_int Tryz.underlying3 q1
  simp at e1
  subst e1
  have q2 : DataW.trod enc Tryz.prog W 0 (fun _ => true) true n0 32 (List.take (Tryz.prog.cellsOf 32) [c2]) = some y2 := hx 2 _ rfl
  rw [Tryz.cellsBys] at q2
  obtain ⟨pby_, nby_, dby_, e2⟩ := sl_cell Tryz.underlying32 (show DataW.trod enc Tryz.prog W 0 (fun _ => true) true n0 32 [c2] = _ from q2)
  subst e2
  obtain ⟨by_, hby_⟩ := by_of_arg (a0 := pby_) (len := nby_) (cap := dby_) ⟨n0, q2⟩
  exact ⟨ei, et, pby_, nby_, dby_, by_, rfl, hby_.2, fits_wf w0, fits_wf w1⟩
set_option maxRecDepth 200000 in
theorem ent_of_arg {H : Type} {enc : TypeId × Value → H} {W : World} {base : Nat} {v : Value} {d0 : DataW H} {p0 : List MemPlace} (hv : Value.okWide Tryz.prog W .any base 55 v)
    (h : DataW.Trod enc Tryz.prog W 0 (fun _ => true) true 55 v d0 p0) : ∃ ei et p n d l, v = .agg #[.int .i64 ei, .int .i64 et, .slice p n d] ∧ By W (.slice p n d) l ∧ fits ei ∧ fits et := by
  unfold Value.okWide at hv
  rw [Tryz.underlying55] at hv
  obtain ⟨cs, rfl, hsz, _⟩ := hv
  obtain ⟨fuel, hf⟩ := h
  have hf' : DataW.trod enc Tryz.prog W 0 (fun _ => true) true fuel 55 cs.toList = some (d0, p0) := hf
  obtain ⟨ei, et, p, n, d, l, e, hb, hf1⟩ := en_of_cells (by rw [Array.length_toList, hsz, Tryz.cellsEt]) hf'
  have e2 := congrArg List.toArray e
  rw [Array.toArray_toList] at e2
  subst e2
  exact ⟨ei, et, p, n, d, l, rfl, hb, hf1⟩
/-- A call of a machine, as the laws have it: its word, its command, its number, its entry. -/
structure Dm where
  op : Int
  k : Int
  se : Int
  sq : Int
  a : Int
  p1 : Option Addr
  n1 : Nat
  d1 : Nat
  p2 : Option Addr
  n2 : Nat
  d2 : Nat
  tm : Int
  ei : Int
  et : Int
  p3 : Option Addr
  n3 : Nat
  d3 : Nat
  sp : List Sp
  vo : List Int
  by_ : List UInt8
instance : Inhabited Dm := ⟨⟨0, 0, 0, 0, 0, none, 0, 0, none, 0, 0, 0, 0, 0, none, 0, 0, [], [], []⟩⟩
def Dm.c (d : Dm) : Cm := ⟨d.k, d.se, d.sq, d.a, d.sp, d.vo⟩
def dmC (d : Dm) : List Value := [.int .i64 d.op, .int .i64 d.k, .int .i64 d.se, .int .i64 d.sq, .int .i64 d.a, .slice d.p1 d.n1 d.d1, .slice d.p2 d.n2 d.d2, .int .i64 d.tm, .int .i64 d.ei, .int .i64 d.et, .slice d.p3 d.n3 d.d3]
/-- What its parts read as. -/
structure DmIn (W : World) (d : Dm) : Prop where
  sp : Sps W (.slice d.p1 d.n1 d.d1) d.sp
  nm : ∀ y ∈ d.sp, y.n.size ≤ maxLen
  vo : Ns W (.slice d.p2 d.n2 d.d2) d.vo
  by_ : By W (.slice d.p3 d.n3 d.d3) d.by_
  f : fits d.op ∧ fits d.tm ∧ fits d.ei ∧ fits d.et
theorem DmIn.below {W W' : World} {d : Dm} (h : DmIn W d) (hb : Below W.heap.size W W') : DmIn W' d := ⟨h.sp.below hb, h.nm, h.vo.below hb, h.by_.below hb, h.f⟩
/-- A slice of calls. -/
def Dms (w : World) (v : Value) (D : List Dm) : Prop := ∃ (p : Option Addr) (c : Nat), v = .slice p D.length c ∧ D.length ≤ c ∧ c ≤ maxLen ∧ ∀ (k : Nat) d, D[k]? = some d → ∃ g o, p = some ⟨g, o, none⟩ ∧ DmIn w d ∧ ∀ (j : Nat) x, (dmC d)[j]? = some x → w.cell? ⟨g, o + k * 11 + j, none⟩ = some x
theorem Dms.below {w w' : World} {v : Value} {D : List Dm} (h : Dms w v D) (hb : Below w.heap.size w w') : Dms w' v D := by
  obtain ⟨p, c, e, h1, h2, h3⟩ := h
  refine ⟨p, c, e, h1, h2, fun k d hk => ?_⟩
  obtain ⟨g, o, e1, hm, hc⟩ := h3 k d hk
  exact ⟨g, o, e1, hm.below hb, fun j x hj => (hb.cell (lt_of_cell (hc j x hj))).trans (hc j x hj)⟩
end Go.Proofs.YtionbmlicmibgaaGreatDoor
