/- What came in as arguments. -/
import Derived.Test.YtdghkmpcjjmlfaaDDoes
import Derived.Deep.Matrix
import Derived.Deep.Fields
import Derived.ChangeOld
namespace Go.Proofs.Ytdghkmpcjjmlfaa
open Go.RowKit Go.Deep Go.ChangeShapes

theorem Try.cells5 : Try.prog.cellsOf 5 = 1 := by kernel_rfl
theorem Try.cells3 : Try.prog.cellsOf 3 = 1 := by kernel_rfl
theorem Try.cells9 : Try.prog.cellsOf 9 = 1 := by kernel_rfl
theorem Try.cellsBy : Try.prog.cellsOf 32 = 1 := by kernel_rfl
theorem Try.cellsDo : Try.prog.cellsOf 34 = 8 := by kernel_rfl

theorem by_of_arg {H : Type} {enc : TypeId × Value → H} {W : World} {a0 : Option Addr} {len cap : Nat} {d0 : DataW H} {p0 : List MemPlace}
    (h : DataW.Trod enc Try.prog W 0 (fun _ => true) true 32 (.slice a0 len cap) d0 p0) : ∃ l : List UInt8, l.length = len ∧ By W (.slice a0 len cap) l := by
  obtain ⟨fuel, hf⟩ := h
  rcases open_ints Try.underlying32 Try.underlying5 Try.cells5 hf with ⟨hcs, _⟩ | ⟨x, l, c, zs, hcs, _, hl, hm, hz, _, hcell, hwz⟩
  · simp [Value.cells] at hcs
    obtain ⟨rfl, rfl, rfl⟩ := hcs
    exact by_of_row (zs := []) (.inl ⟨rfl, rfl, rfl, rfl⟩)
  · simp [Value.cells] at hcs
    obtain ⟨rfl, rfl, rfl⟩ := hcs
    exact by_of_row (.inr ⟨_, rfl, hl, hm, by simpa using hz, hcell, hwz⟩)

/-- The words of a call that came in. -/
structure DoIs (W : World) (v : Value) (op : Int) (name to : ByteArray) (at_ : Int) (p : Option Addr) (m c : Nat) (b : List UInt8) (n keep tear : Int) : Prop where
  val : v = doV op name to at_ (.slice p m c) n keep tear
  h1 : name.size ≤ maxLen
  h2 : to.size ≤ maxLen
  h3 : I64 at_
  hb : By W (.slice p m c) b
  h4 : I64 n
  h5 : I64 keep
  h6 : I64 tear

theorem wf_i64 {n : Int} (h : (Lit.int .i64 n).wf = true) : I64 n := by
  have h1 : IntKind.i64.min = -9223372036854775808 := rfl
  have h2 : IntKind.i64.max = 9223372036854775807 := rfl
  simp only [Lit.wf, Bool.and_eq_true, decide_eq_true_eq] at h
  exact ⟨by omega, by omega⟩

set_option maxRecDepth 200000 in
theorem do_of_cells {H : Type} {enc : TypeId × Value → H} {W : World} {cs : List Value} {fuel : Nat} {x : DataW H × List MemPlace} (hcs : cs.length = 8)
    (h : DataW.trod enc Try.prog W 0 (fun _ => true) true fuel 34 cs = some x) : ∃ op name to at_ p m c b n keep tear, cs = [.int .i64 op, .string name, .string to, .int .i64 at_, .slice p m c, .int .i64 n, .int .i64 keep, .int .i64 tear] ∧ DoIs W (doV op name to at_ (.slice p m c) n keep tear) op name to at_ p m c b n keep tear := by
  obtain ⟨xs, n0, -, -, -, hxl, hx⟩ := DataW.trod_struct Try.underlying34 h
  obtain ⟨c0, c1, c2, c3, c4, c5, c6, c7, rfl⟩ : ∃ c0 c1 c2 c3 c4 c5 c6 c7, cs = [c0, c1, c2, c3, c4, c5, c6, c7] := by
    rcases cs with _ | ⟨c0, _ | ⟨c1, _ | ⟨c2, _ | ⟨c3, _ | ⟨c4, _ | ⟨c5, _ | ⟨c6, _ | ⟨c7, _ | ⟨c8, r⟩⟩⟩⟩⟩⟩⟩⟩⟩
    all_goals first | (exfalso; simp at hcs; done) | exact ⟨_, _, _, _, _, _, _, _, rfl⟩
  obtain ⟨y0, y1, y2, y3, y4, y5, y6, y7, rfl⟩ : ∃ y0 y1 y2 y3 y4 y5 y6 y7, xs = [y0, y1, y2, y3, y4, y5, y6, y7] := by
    rcases xs with _ | ⟨c0, _ | ⟨c1, _ | ⟨c2, _ | ⟨c3, _ | ⟨c4, _ | ⟨c5, _ | ⟨c6, _ | ⟨c7, _ | ⟨c8, r⟩⟩⟩⟩⟩⟩⟩⟩⟩
    all_goals first | (exfalso; simp at hxl; done) | exact ⟨_, _, _, _, _, _, _, _, rfl⟩
  have q0 : DataW.trod enc Try.prog W 0 (fun _ => true) true n0 3 (List.take (Try.prog.cellsOf 3) [c0, c1, c2, c3, c4, c5, c6, c7]) = some y0 := hx 0 _ rfl
  rw [Try.cells3] at q0
  have q1 : DataW.trod enc Try.prog W 0 (fun _ => true) true n0 9 (List.take (Try.prog.cellsOf 9) [c1, c2, c3, c4, c5, c6, c7]) = some y1 := hx 1 _ rfl
  rw [Try.cells9] at q1
  have q2 : DataW.trod enc Try.prog W 0 (fun _ => true) true n0 9 (List.take (Try.prog.cellsOf 9) [c2, c3, c4, c5, c6, c7]) = some y2 := hx 2 _ rfl
  rw [Try.cells9] at q2
  have q3 : DataW.trod enc Try.prog W 0 (fun _ => true) true n0 3 (List.take (Try.prog.cellsOf 3) [c3, c4, c5, c6, c7]) = some y3 := hx 3 _ rfl
  rw [Try.cells3] at q3
  have q4 : DataW.trod enc Try.prog W 0 (fun _ => true) true n0 32 (List.take (Try.prog.cellsOf 32) [c4, c5, c6, c7]) = some y4 := hx 4 _ rfl
  rw [Try.cellsBy] at q4
  have q5 : DataW.trod enc Try.prog W 0 (fun _ => true) true n0 3 (List.take (Try.prog.cellsOf 3) [c5, c6, c7]) = some y5 := hx 5 _ rfl
  rw [Try.cells3] at q5
  have q6 : DataW.trod enc Try.prog W 0 (fun _ => true) true n0 3 (List.take (Try.prog.cellsOf 3) [c6, c7]) = some y6 := hx 6 _ rfl
  rw [Try.cells3] at q6
  have q7 : DataW.trod enc Try.prog W 0 (fun _ => true) true n0 3 (List.take (Try.prog.cellsOf 3) [c7]) = some y7 := hx 7 _ rfl
  rw [Try.cells3] at q7
  obtain ⟨op, e0, -, -⟩ := DataW.trod_int Try.underlying3 q0
  obtain ⟨name, e1, -, w1⟩ := DataW.trod_string Try.underlying9 q1
  obtain ⟨to, e2, -, w2⟩ := DataW.trod_string Try.underlying9 q2
  obtain ⟨at_, e3, -, w3⟩ := DataW.trod_int Try.underlying3 q3
  obtain ⟨n, e5, -, w5⟩ := DataW.trod_int Try.underlying3 q5
  obtain ⟨keep, e6, -, w6⟩ := DataW.trod_int Try.underlying3 q6
  obtain ⟨tear, e7, -, w7⟩ := DataW.trod_int Try.underlying3 q7
  have hsl : ∃ p m c, c4 = .slice p m c := by
    rcases DataW.trod_slice Try.underlying32 q4 with ⟨e, _⟩ | ⟨a, len, cap, _, _, _, _, e, _⟩
    · simp at e
      exact ⟨_, _, _, e⟩
    · simp at e
      exact ⟨_, _, _, e⟩
  obtain ⟨p, m, c, rfl⟩ := hsl
  obtain ⟨b, -, hb⟩ := by_of_arg (a0 := p) (len := m) (cap := c) (d0 := y4.1) (p0 := y4.2) (W := W) (enc := enc) ⟨n0, q4⟩
  simp at e0 e1 e2 e3 e5 e6 e7
  subst e0 e1 e2 e3 e5 e6 e7
  exact ⟨op, name, to, at_, p, m, c, b, n, keep, tear, rfl, ⟨rfl, w1, w2, wf_i64 w3, hb, wf_i64 w5, wf_i64 w6, wf_i64 w7⟩⟩

set_option maxRecDepth 200000 in
theorem do_of_arg {H : Type} {enc : TypeId × Value → H} {W : World} {base : Nat} {v : Value} {d0 : DataW H} {p0 : List MemPlace} (hv : Value.okWide Try.prog W .any base 34 v)
    (h : DataW.Trod enc Try.prog W 0 (fun _ => true) true 34 v d0 p0) : ∃ op name to at_ p m c b n keep tear, DoIs W v op name to at_ p m c b n keep tear := by
  unfold Value.okWide at hv
  rw [Try.underlying34] at hv
  obtain ⟨cs, rfl, hsz, _⟩ := hv
  obtain ⟨fuel, hf⟩ := h
  have hf' : DataW.trod enc Try.prog W 0 (fun _ => true) true fuel 34 cs.toList = some (d0, p0) := hf
  obtain ⟨op, name, to, at_, p, m, c, b, n, keep, tear, e, hd⟩ := do_of_cells (by rw [Array.length_toList, hsz, Try.cellsDo]) hf'
  refine ⟨op, name, to, at_, p, m, c, b, n, keep, tear, ?_, hd.h1, hd.h2, hd.h3, hd.hb, hd.h4, hd.h5, hd.h6⟩
  unfold doV
  rw [← e]
end Go.Proofs.Ytdghkmpcjjmlfaa
