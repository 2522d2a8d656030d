/- What a call does. -/
import Derived.Test.YtdghkmpcjjmlfaaDNo
namespace Go.Proofs.Ytdghkmpcjjmlfaa
open Go.RowKit

/-- A call, as a value. -/
def doV (op : Int) (name to : ByteArray) (at_ : Int) (b : Value) (n keep tear : Int) : Value := .agg #[.int .i64 op, .string name, .string to, .int .i64 at_, b, .int .i64 n, .int .i64 keep, .int .i64 tear]

set_option maxRecDepth 200000 in
set_option maxHeartbeats 4000000 in
theorem does_no {w : World} {v : Value} (h : No w v) (op : Int) (name to : ByteArray) (at_ : Int) (p : Option Addr) (m c : Nat) (n keep tear : Int) : Calls Try.prog 9 #[v, doV op name to at_ (.slice p m c) n keep tear] w (Six w) := by
  unfold doV
  go_enter Try.func9, Try.ntmps9
  go_wp2_with fail
  all_goals
    have hW := h.chg (chg_alloc w (.cells #[.int .i64 op, .string name, .string to, .int .i64 at_, .slice p m c, .int .i64 n, .int .i64 keep, .int .i64 tear] 34))
    first
    | refine (trim_no hW _ _).mono ?_
    | refine (move_no hW _ _).mono ?_
    | refine (drop_no hW _).mono ?_
    | refine (sync_no hW).mono ?_
    | refine (arm_no hW _ _ _).mono ?_
    | refine (crash_no hW _ _).mono ?_
    | refine (start_no hW).mono ?_
    | refine (write_no hW _ _ _ _ _).mono ?_
    rintro e w1 ⟨rfl, hc⟩
    go_wp2
    go_ret
    exact ⟨rfl, (chg_alloc w _).trans hc fun _ h => .inl h⟩

/-- Which call. -/
def kind (op : Int) : Int := wrap64 ((IntKind.u64.wrap op).tmod 10)
def Dk.doer (st : Dk) (op : Int) (name to : List UInt8) (at_ : Int) (b : List UInt8) (n keep tear : Int) : Nat × Dk :=
  if kind op == 3 then st.trim name at_ else if kind op == 4 then st.move name to else if kind op == 5 then st.drop name else if kind op == 6 then st.sync else if kind op == 7 then st.arm n keep tear else if kind op == 8 then st.crash keep tear else if kind op == 9 then (0, st.start) else st.write name at_ b

/-- A number that Go's int holds. -/
def I64 (n : Int) : Prop := -9223372036854775808 ≤ n ∧ n ≤ 9223372036854775807

set_option maxRecDepth 200000 in
set_option maxHeartbeats 4000000 in
theorem does_own {w0 w : World} {g : Nat} {st : Dk} (h : Own1 w0 g st w) (hq : st.Calm) {op : Int} {name to : ByteArray} (h1 : name.size ≤ maxLen) (h2 : to.size ≤ maxLen) {at_ : Int} (h3 : I64 at_) {p : Option Addr} {m c : Nat} {b : List UInt8} (hb : By w (.slice p m c) b) (hbl : b.length ≤ 140737488355328) {n keep tear : Int} (h4 : I64 n) (h5 : I64 keep) (h6 : I64 tear) :
    Calls Try.prog 9 #[.pointer (some ⟨g, 0, none⟩), doV op name to at_ (.slice p m c) n keep tear] w fun e w' => e = .returned (.int .i64 ((st.doer op name.data.toList to.data.toList at_ b n keep tear).1 : Nat)) ∧ Own1 w0 g (st.doer op name.data.toList to.data.toList at_ b n keep tear).2 w' := by
  have hW := h.alloc (.cells #[.int .i64 op, .string name, .string to, .int .i64 at_, .slice p m c, .int .i64 n, .int .i64 keep, .int .i64 tear] 34)
  have hbW := hb.chg (chg_alloc w (.cells #[.int .i64 op, .string name, .string to, .int .i64 at_, .slice p m c, .int .i64 n, .int .i64 keep, .int .i64 tear] 34)) (.inr fun _ _ h => h)
  have ht := hide (trim_own hW hq h1 h3.2 h3.1)
  have hm := hide (move_own hW hq h1 h2)
  have hd := hide (drop_own hW hq h1)
  have hs := hide (sync_own hW hq)
  have ha := hide (arm_own hW (keep := keep) (tear := tear) h4.2 h4.1)
  have hc := hide (crash_own hW h5.2 h5.1 h6.2 h6.1)
  have hst := hide (start_own hW)
  have hw := hide (write_own hW hq h1 h3.2 h3.1 hbW hbl)
  unfold doV
  clear hW hbW hb h h3 h4 h5 h6 hq
  go_enter Try.func9, Try.ntmps9
  go_wp2_with fail
  all_goals
    first
    | refine ht.out.mono ?_
    | refine hm.out.mono ?_
    | refine hd.out.mono ?_
    | refine hs.out.mono ?_
    | refine ha.out.mono ?_
    | refine hc.out.mono ?_
    | refine hst.out.mono ?_
    | refine hw.out.mono ?_
    rintro e w1 ⟨rfl, hc⟩
    have HC := hide hc
    clear hc
    go_wp2
    go_ret
    have hc := HC.out
    simp_all [Dk.doer, kind]
end Go.Proofs.Ytdghkmpcjjmlfaa
