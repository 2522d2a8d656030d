/- Replies, calls and slices of calls that came in as arguments. -/
import Derived.Test.YtfbndbmhnpleoaaTMem
import Derived.Deep.Matrix
import Derived.Deep.Fields
import Derived.ChangeOld
import Derived.OpenShut
namespace Go.Proofs.Ytfbndbmhnpleoaa
set_option linter.unusedVariables false
set_option linter.unusedSimpArgs false
open Go.RowKit Go.Deep Go.ChangeShapes

set_option maxRecDepth 200000 in
theorem cnt_of_cells {H : Type} {enc : TypeId × Value → H} {W : World} {cs : List Value} {fuel : Nat} {x : DataW H × List MemPlace} (hcs : cs.length = 5)
    (h : DataW.trod enc Try.prog W 0 (fun _ => true) true fuel 39 cs = some x) : ∃ l : List Int, l.length = 5 ∧ cs = l.map (Value.int .i64) ∧ ∀ z ∈ l, (Lit.int .i64 z).wf = true := by
  obtain ⟨xs, n0, -, -, -, hxl, hx⟩ := DataW.trod_struct Try.underlying39 h
  obtain ⟨c0, c1, c2, c3, c4, rfl⟩ : ∃ c0 c1 c2 c3 c4, cs = [c0, c1, c2, c3, c4] := by
    rcases cs with _ | ⟨c0, _ | ⟨c1, _ | ⟨c2, _ | ⟨c3, _ | ⟨c4, _ | ⟨cz, rz⟩⟩⟩⟩⟩⟩
    all_goals first | (exfalso; simp at hcs; done) | exact ⟨_, _, _, _, _, rfl⟩
  obtain ⟨y0, y1, y2, y3, y4, rfl⟩ : ∃ y0 y1 y2 y3 y4, xs = [y0, y1, y2, y3, y4] := by
    rcases xs with _ | ⟨y0, _ | ⟨y1, _ | ⟨y2, _ | ⟨y3, _ | ⟨y4, _ | ⟨yz, rz⟩⟩⟩⟩⟩⟩
    all_goals first | (exfalso; simp at hxl; done) | exact ⟨_, _, _, _, _, rfl⟩
  have q0 : DataW.trod enc Try.prog W 0 (fun _ => true) true n0 3 (List.take (Try.prog.cellsOf 3) [c0, c1, c2, c3, c4]) = some y0 := hx 0 _ rfl
  rw [(by kernel_rfl : Try.prog.cellsOf 3 = 1)] at q0
  obtain ⟨i0, e0, -, w0⟩ := DataW.trod_int Try.underlying3 q0
  simp at e0
  subst e0
  have q1 : DataW.trod enc Try.prog W 0 (fun _ => true) true n0 3 (List.take (Try.prog.cellsOf 3) [c1, c2, c3, c4]) = some y1 := hx 1 _ rfl
  rw [(by kernel_rfl : Try.prog.cellsOf 3 = 1)] at q1
  obtain ⟨i1, e1, -, w1⟩ := DataW.trod_int Try.underlying3 q1
  simp at e1
  subst e1
  have q2 : DataW.trod enc Try.prog W 0 (fun _ => true) true n0 3 (List.take (Try.prog.cellsOf 3) [c2, c3, c4]) = some y2 := hx 2 _ rfl
  rw [(by kernel_rfl : Try.prog.cellsOf 3 = 1)] at q2
  obtain ⟨i2, e2, -, w2⟩ := DataW.trod_int Try.underlying3 q2
  simp at e2
  subst e2
  have q3 : DataW.trod enc Try.prog W 0 (fun _ => true) true n0 3 (List.take (Try.prog.cellsOf 3) [c3, c4]) = some y3 := hx 3 _ rfl
  rw [(by kernel_rfl : Try.prog.cellsOf 3 = 1)] at q3
  obtain ⟨i3, e3, -, w3⟩ := DataW.trod_int Try.underlying3 q3
  simp at e3
  subst e3
  have q4 : DataW.trod enc Try.prog W 0 (fun _ => true) true n0 3 (List.take (Try.prog.cellsOf 3) [c4]) = some y4 := hx 4 _ rfl
  rw [(by kernel_rfl : Try.prog.cellsOf 3 = 1)] at q4
  obtain ⟨i4, e4, -, w4⟩ := DataW.trod_int Try.underlying3 q4
  simp at e4
  subst e4
  refine ⟨[i0] ++ [i1] ++ [i2] ++ [i3] ++ [i4], by simp, ?_, fun z hz => ?_⟩
  · rfl
  · simp only [List.mem_append, List.mem_cons, List.not_mem_nil, or_false] at hz
    rcases hz with ((((hz | hz) | hz) | hz) | hz)
    · exact hz ▸ w0
    · exact hz ▸ w1
    · exact hz ▸ w2
    · exact hz ▸ w3
    · exact hz ▸ w4
set_option maxRecDepth 200000 in
theorem rp_of_cells {H : Type} {enc : TypeId × Value → H} {W : World} {cs : List Value} {fuel : Nat} {x : DataW H × List MemPlace} (hcs : cs.length = 8)
    (h : DataW.trod enc Try.prog W 0 (fun _ => true) true fuel 41 cs = some x) : ∃ l : List Int, l.length = 8 ∧ cs = l.map (Value.int .i64) ∧ ∀ z ∈ l, (Lit.int .i64 z).wf = true := by
  obtain ⟨xs, n0, -, -, -, hxl, hx⟩ := DataW.trod_struct Try.underlying41 h
  obtain ⟨c0, c1, c2, c3, c4, c5, c6, c7, rfl⟩ : ∃ c0 c1 c2 c3 c4 c5 c6 c7, cs = [c0, c1, c2, c3, c4, c5, c6, c7] := by
    rcases cs with _ | ⟨c0, _ | ⟨c1, _ | ⟨c2, _ | ⟨c3, _ | ⟨c4, _ | ⟨c5, _ | ⟨c6, _ | ⟨c7, _ | ⟨cz, rz⟩⟩⟩⟩⟩⟩⟩⟩⟩
    all_goals first | (exfalso; simp at hcs; done) | exact ⟨_, _, _, _, _, _, _, _, rfl⟩
  obtain ⟨y0, y1, y2, y3, rfl⟩ : ∃ y0 y1 y2 y3, xs = [y0, y1, y2, y3] := by
    rcases xs with _ | ⟨y0, _ | ⟨y1, _ | ⟨y2, _ | ⟨y3, _ | ⟨yz, rz⟩⟩⟩⟩⟩
    all_goals first | (exfalso; simp at hxl; done) | exact ⟨_, _, _, _, rfl⟩
  have q0 : DataW.trod enc Try.prog W 0 (fun _ => true) true n0 26 (List.take (Try.prog.cellsOf 26) [c0, c1, c2, c3, c4, c5, c6, c7]) = some y0 := hx 0 _ rfl
  rw [(by kernel_rfl : Try.prog.cellsOf 26 = 1)] at q0
  obtain ⟨i0, e0, -, w0⟩ := DataW.trod_int Try.underlying26 q0
  simp at e0
  subst e0
  have q1 : DataW.trod enc Try.prog W 0 (fun _ => true) true n0 3 (List.take (Try.prog.cellsOf 3) [c1, c2, c3, c4, c5, c6, c7]) = some y1 := hx 1 _ rfl
  rw [(by kernel_rfl : Try.prog.cellsOf 3 = 1)] at q1
  obtain ⟨i1, e1, -, w1⟩ := DataW.trod_int Try.underlying3 q1
  simp at e1
  subst e1
  have q2 : DataW.trod enc Try.prog W 0 (fun _ => true) true n0 3 (List.take (Try.prog.cellsOf 3) [c2, c3, c4, c5, c6, c7]) = some y2 := hx 2 _ rfl
  rw [(by kernel_rfl : Try.prog.cellsOf 3 = 1)] at q2
  obtain ⟨i2, e2, -, w2⟩ := DataW.trod_int Try.underlying3 q2
  simp at e2
  subst e2
  have q3 : DataW.trod enc Try.prog W 0 (fun _ => true) true n0 39 (List.take (Try.prog.cellsOf 39) [c3, c4, c5, c6, c7]) = some y3 := hx 3 _ rfl
  rw [(by kernel_rfl : Try.prog.cellsOf 39 = 5)] at q3
  obtain ⟨l3, hl3, e3, w3⟩ := cnt_of_cells (by simp) q3
  simp at e3
  refine ⟨[i0] ++ [i1] ++ [i2] ++ l3, by simp [hl3], ?_, fun z hz => ?_⟩
  · simp only [List.map_append, List.map_cons, List.map_nil, ← e3]
    rfl
  · simp only [List.mem_append, List.mem_cons, List.not_mem_nil, or_false] at hz
    rcases hz with (((hz | hz) | hz) | hz)
    · exact hz ▸ w0
    · exact hz ▸ w1
    · exact hz ▸ w2
    · exact w3 z hz
theorem list8 {l : List Int} (h : l.length = 8) : ∃ a1 a2 a3 a4 a5 a6 a7 a8, l = [a1, a2, a3, a4, a5, a6, a7, a8] := by
  rcases l with _ | ⟨a1, _ | ⟨a2, _ | ⟨a3, _ | ⟨a4, _ | ⟨a5, _ | ⟨a6, _ | ⟨a7, _ | ⟨a8, _ | ⟨az, rz⟩⟩⟩⟩⟩⟩⟩⟩⟩
  all_goals first | (exfalso; simp at h; done) | exact ⟨_, _, _, _, _, _, _, _, rfl⟩
theorem list12 {l : List Int} (h : l.length = 12) : ∃ b1 b2 b3 b4 a1 a2 a3 a4 a5 a6 a7 a8, l = [b1, b2, b3, b4, a1, a2, a3, a4, a5, a6, a7, a8] := by
  rcases l with _ | ⟨b1, _ | ⟨b2, _ | ⟨b3, _ | ⟨b4, _ | ⟨a1, _ | ⟨a2, _ | ⟨a3, _ | ⟨a4, _ | ⟨a5, _ | ⟨a6, _ | ⟨a7, _ | ⟨a8, _ | ⟨az, rz⟩⟩⟩⟩⟩⟩⟩⟩⟩⟩⟩⟩⟩
  all_goals first | (exfalso; simp at h; done) | exact ⟨_, _, _, _, _, _, _, _, _, _, _, _, rfl⟩

/-- A reply whose numbers may be numbers. -/
def Rp.wf (r : Rp) : Prop := ∀ z ∈ r.nums, (Lit.int .i64 z).wf = true
set_option maxRecDepth 200000 in
theorem rp_of_arg {H : Type} {enc : TypeId × Value → H} {W : World} {base : Nat} {v : Value} {d0 : DataW H} {p0 : List MemPlace} (hv : Value.okWide Try.prog W .any base 41 v)
    (h : DataW.Trod enc Try.prog W 0 (fun _ => true) true 41 v d0 p0) : ∃ r : Rp, v = rpV r ∧ r.wf := by
  unfold Value.okWide at hv
  rw [Try.underlying41] at hv
  obtain ⟨cs, rfl, hsz, _⟩ := hv
  obtain ⟨fuel, hf⟩ := h
  have hf' : DataW.trod enc Try.prog W 0 (fun _ => true) true fuel 41 cs.toList = some (d0, p0) := hf
  obtain ⟨l, hl, e, hw⟩ := rp_of_cells (by rw [Array.length_toList, hsz]; kernel_rfl) hf'
  obtain ⟨a1, a2, a3, a4, a5, a6, a7, a8, rfl⟩ := list8 hl
  refine ⟨⟨a1, a2, a3, a4, a5, a6, a7, a8⟩, ?_, hw⟩
  rw [rpV_eq]
  congr 1
  exact Array.toList_inj.1 (by rw [e]; rfl)

/-- A call that came in, plainly. -/
structure Dt where
  op : Int
  s : Int
  q : Int
  a : Int
  r : Rp
def Dt.nums (x : Dt) : List Int := [x.op, x.s, x.q, x.a, x.r.er, x.r.rs, x.r.gn, x.r.ad, x.r.sa, x.r.ot, x.r.cy, x.r.fu]
def Dt.wf (x : Dt) : Prop := ∀ z ∈ x.nums, (Lit.int .i64 z).wf = true
def dtC (x : Dt) : List Value := [.int .i64 x.op, .int .i64 x.s, .int .i64 x.q, .int .i64 x.a, .int .i64 x.r.er, .int .i64 x.r.rs, .int .i64 x.r.gn, .int .i64 x.r.ad, .int .i64 x.r.sa, .int .i64 x.r.ot, .int .i64 x.r.cy, .int .i64 x.r.fu]
def dtV (x : Dt) : Value := .agg #[.int .i64 x.op, .int .i64 x.s, .int .i64 x.q, .int .i64 x.a, .int .i64 x.r.er, .int .i64 x.r.rs, .int .i64 x.r.gn, .int .i64 x.r.ad, .int .i64 x.r.sa, .int .i64 x.r.ot, .int .i64 x.r.cy, .int .i64 x.r.fu]
theorem dtC_length (x : Dt) : (dtC x).length = 12 := rfl
theorem i64_bounds {n : Int} (h : (Lit.int .i64 n).wf = true) : -9223372036854775808 ≤ n ∧ n ≤ 9223372036854775807 := by
  have h1 : IntKind.i64.min = -9223372036854775808 := rfl
  have h2 : IntKind.i64.max = 9223372036854775807 := rfl
  simp only [Lit.wf, Bool.and_eq_true, decide_eq_true_eq] at h
  omega
theorem Dt.wf.ws {x : Dt} (h : x.wf) : (Lit.int .i64 x.s).wf = true := h _ (by simp [Dt.nums])
theorem Dt.wf.wq {x : Dt} (h : x.wf) : (Lit.int .i64 x.q).wf = true := h _ (by simp [Dt.nums])
theorem Dt.wf.wa {x : Dt} (h : x.wf) : (Lit.int .i64 x.a).wf = true := h _ (by simp [Dt.nums])
theorem Dt.wf.wo {x : Dt} (h : x.wf) : (Lit.int .i64 x.op).wf = true := h _ (by simp [Dt.nums])

theorem dt_of_list {l : List Int} (hl : l.length = 12) (hw : ∀ z ∈ l, (Lit.int .i64 z).wf = true) : ∃ x : Dt, l.map (Value.int .i64) = dtC x ∧ x.wf := by
  obtain ⟨b1, b2, b3, b4, a1, a2, a3, a4, a5, a6, a7, a8, rfl⟩ := list12 hl
  exact ⟨⟨b1, b2, b3, b4, ⟨a1, a2, a3, a4, a5, a6, a7, a8⟩⟩, rfl, hw⟩
/-- A call's cells at a place. -/
def DtAt (w : World) (g o : Nat) (x : Dt) : Prop := ∀ (k : Nat) u, (dtC x)[k]? = some u → w.cell? ⟨g, o + k, none⟩ = some u
theorem DtAt.below {w w' : World} {g o : Nat} {x : Dt} (h : DtAt w g o x) (hb : Below w.heap.size w w') : DtAt w' g o x := fun k u hk => (hb.cell (lt_of_cell (h k u hk))).trans (h k u hk)
/-- The slice reads as the calls l. -/
structure Dts (w : World) (p : Option Addr) (len cap : Nat) (l : List Dt) : Prop where
  len_ : l.length = len
  cap_ : len ≤ cap
  max_ : cap ≤ maxLen
  at_ : 0 < len → ∃ g o, p = some ⟨g, o, none⟩ ∧ g < w.heap.size ∧ ∀ (i : Nat) x, l[i]? = some x → DtAt w g (o + i * 12) x
  wf_ : ∀ x ∈ l, x.wf
theorem Dts.below {w w' : World} {p : Option Addr} {len cap : Nat} {l : List Dt} (h : Dts w p len cap l) (hb : Below w.heap.size w w') : Dts w' p len cap l :=
  ⟨h.len_, h.cap_, h.max_, fun h0 => by
    obtain ⟨g, o, e, hg, hx⟩ := h.at_ h0
    exact ⟨g, o, e, Nat.lt_of_lt_of_le hg hb.size, fun i x hi => (hx i x hi).below hb⟩, h.wf_⟩

end Go.Proofs.Ytfbndbmhnpleoaa
