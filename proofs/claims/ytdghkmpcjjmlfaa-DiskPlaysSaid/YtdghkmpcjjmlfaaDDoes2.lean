/- What a call does to a disk beside others. -/
import Derived.Test.YtdghkmpcjjmlfaaDSame
namespace Go.Proofs.Ytdghkmpcjjmlfaa
open Go.RowKit

set_option maxRecDepth 200000 in
set_option maxHeartbeats 4000000 in
theorem does_disk {w : World} {S C : Nat → Prop} {g : Nat} {st : Dk} (h : DiskIs w S C g st) (hq : st.Calm) {op : Int} {name to : ByteArray} (h1 : name.size ≤ maxLen) (h2 : to.size ≤ maxLen) {at_ : Int} (h3 : I64 at_) {p : Option Addr} {m c : Nat} {b : List UInt8} (hb : By w (.slice p m c) b) (hbl : b.length ≤ 140737488355328) {n keep tear : Int} (h4 : I64 n) (h5 : I64 keep) (h6 : I64 tear) :
    Calls Try.prog 9 #[.pointer (some ⟨g, 0, none⟩), doV op name to at_ (.slice p m c) n keep tear] w fun e w' => e = .returned (.int .i64 ((st.doer op name.data.toList to.data.toList at_ b n keep tear).1 : Nat)) ∧ DPost w S C g (st.doer op name.data.toList to.data.toList at_ b n keep tear).2 w' := by
  have hcW := chg_alloc w (.cells #[.int .i64 op, .string name, .string to, .int .i64 at_, .slice p m c, .int .i64 n, .int .i64 keep, .int .i64 tear] 34)
  have hW := h.chg hcW (fun _ _ h => h) (fun _ _ h => h)
  have hbW := hb.chg hcW (.inr fun _ _ h => h)
  have hpost : ∀ st' w', DPost (w.alloc (.cells #[.int .i64 op, .string name, .string to, .int .i64 at_, .slice p m c, .int .i64 n, .int .i64 keep, .int .i64 tear] 34)) S C g st' w' → DPost w S C g st' w' := fun st' w' hp => hp.after (hcW.mono fun _ h => h.elim) fun _ hi => .inl hi
  have HPOST := hide hpost
  have ht := hide (trim_call hW h1 h3.2 h3.1 hq.few hq.k1 hq.k2 hq.t1 hq.t2)
  have hm := hide (move_call hW h1 h2 hq.few hq.k1 hq.k2 hq.t1 hq.t2)
  have hd := hide (drop_call hW h1 hq.few hq.k1 hq.k2 hq.t1 hq.t2)
  have hs := hide (sync_call hW hq.k1 hq.k2 hq.t1 hq.t2)
  have ha := hide (arm_call hW (keep := keep) (tear := tear) h4.2 h4.1)
  have hc := hide (crash_call hW h5.2 h5.1 h6.2 h6.1)
  have hst := hide (start_call hW)
  have hw := hide (write_any hW h1 h3.2 h3.1 hbW hbl hq.few hq.k1 hq.k2 hq.t1 hq.t2)
  unfold doV
  clear hW hbW hb h h3 h4 h5 h6 hq hcW hpost
  go_enter Try.func9, Try.ntmps9
  go_wp2_with fail
  all_goals
    first
    | refine ht.out.mono ?_
    | refine hm.out.mono ?_
    | refine hd.out.mono ?_
    | refine hs.out.mono ?_
    | refine ha.out.mono ?_
    | refine hc.out.mono ?_
    | refine hst.out.mono ?_
    | refine hw.out.mono ?_
    rintro e w1 ⟨rfl, hc⟩
    have HC := hide (HPOST.out _ _ hc)
    clear hc
    go_wp2
    go_ret
    have hc := HC.out
    simp_all [Dk.doer, kind]

end Go.Proofs.Ytdghkmpcjjmlfaa
