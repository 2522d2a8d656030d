/- Double of a bag. -/
import Derived.Test.YtiiollgipfggmaaNTake
namespace Go.Proofs.Ytiiollgipfggmaa
set_option linter.unusedVariables false
set_option linter.unusedSimpArgs false
open Go.RowKit

def dblE (x : Bg) (id : Int) : Int := match findI x id with | none => 130 | some _ => if fullB x then 7 else 0
def dblI (x : Bg) (id : Int) : Bg := match findI x id with | none => x | some k => if fullB x then x else match x.ps[k]? with | none => x | some y => ⟨x.last + 1, x.ps ++ [(x.last + 1, y.2)]⟩

set_option maxRecDepth 200000 in
set_option maxHeartbeats 4000000 in
theorem double_bag {B : Nat} {w : World} {g : Nat} {v : Value} {x : Bg} (h : BgIs B w g v x) (id : Int) (hl : x.last < 1000000) (hB : B ≤ w.heap.size) : Calls Try.prog 28 #[.pointer (some ⟨g, 0, none⟩), .int .i64 id] w fun e w' => e = .returned (.int .i64 (dblE x id)) ∧ ∃ v', BgIs B w' g v' (dblI x id) ∧ Chg w w' (BgS g v) ∧ ∀ k, BgS g v' k → BgS g v k ∨ w.heap.size ≤ k := by
  have HF := hide (find_bag h id)
  have HH := hide h
  have HL := hide hl
  have HBB := hide hB
  clear h hl hB
  unfold findR at HF
  unfold dblE dblI
  cases hf : findI x id with
  | none =>
    rw [hf] at HF
    dsimp only at HF ⊢
    clear hf
    go_enter Try.func28, Try.ntmps28
    go_wp2_with fail
    refine HF.out.mono ?_
    rintro e w2 ⟨rfl, hb2⟩
    have HB2 := hide hb2
    clear hb2
    go_wp2
    go_ret
    exact ⟨rfl, v, HH.out.below HB2.out, Chg.of_below HB2.out _, fun k hk => .inl hk⟩
  | some k =>
    rw [hf] at HF
    have hkx := findI_lt hf
    obtain ⟨y, hy⟩ : ∃ y, x.ps[k]? = some y := ⟨_, List.getElem?_eq_getElem hkx⟩
    dsimp only at HF ⊢
    rw [hy]
    dsimp only
    obtain ⟨E, hE, hD⟩ := HH.out.row
    have hEk : k < E.length := by rw [hD.1]; exact hkx
    obtain ⟨pr, cr, rfl, hrc, hrm⟩ := hE.sl
    have HC2 := HH.out.c2
    obtain ⟨n, hn⟩ : ∃ n, E.length = n := ⟨_, rfl⟩
    rw [hn] at hE HC2 hEk HH hD
    obtain ⟨e0, he0⟩ : ∃ e, E[k]? = some e := ⟨_, List.getElem?_eq_getElem (by rw [hn]; exact hEk)⟩
    obtain ⟨_, hown, hfar⟩ := hD.2 k e0 y he0 hy
    obtain ⟨gr, rfl, _, hcell⟩ := hE.at_ (by omega)
    have hc1 := hcell k e0 he0 1 _ rfl
    have hn256 : n ≤ 256 := by have := HH.out.ok.few; have := hD.1; omega
    obtain ⟨ei, pq, nq, cq⟩ := e0
    dsimp only at hc1 hown hfar
    have HIN := hide (HH.out.ok.inn y (List.mem_of_getElem? hy))
    have hk0 : (0 : Int) ≤ (k : Int) := by omega
    have hk1 : (k : Int) < (n : Int) := by omega
    have HOW := hide (And.intro hown hfar)
    have HC1 := hide hc1
    have HC22 := hide HC2
    obtain ⟨q, hq⟩ : ∃ q, fullB x = q := ⟨_, rfl⟩
    have HQ := hide hq
    rw [hq]
    clear hf hkx hy hE hD hrc hrm hn he0 hown hfar hcell hc1 HC2 hEk hq
    go_enter Try.func28, Try.ntmps28
    go_wp2_with fail
    refine HF.out.mono ?_
    rintro e w2 ⟨rfl, hb2⟩
    have HB2 := hide hb2
    have HG2 := hide (HH.out.below hb2)
    have HFU := hide (full_bag HG2.out)
    rw [HQ.out] at HFU
    have k2 := (hb2.cell (lt_of_cell HC22.out)).trans HC22.out
    have k1 := (hb2.cell (lt_of_cell HC1.out)).trans HC1.out
    clear hb2
    go_wp2_with fail
    refine HFU.out.mono ?_
    rintro e w' ⟨rfl, rfl⟩
    cases q
    · have HPU := hide (put_bag HG2.out HIN.out (by have := HQ.out; unfold fullB at this; have := of_decide_eq_false this; omega) HL.out (HOW.out.1.below HB2.out) HOW.out.2 (Nat.le_trans HBB.out HB2.out.size))
      go_wp2_with fail
      refine HPU.out.mono ?_
      rintro e w5 ⟨rfl, v5, hg5, hc5, hs5⟩
      have HG5 := hide (show BgIs B w5 g v5 _ ∧ Chg w w5 _ ∧ _ from ⟨hg5, (Chg.of_below HB2.out _).trans hc5 (fun j hj => .inl hj), fun j hj => (hs5 j hj).imp (fun h => h) (fun h => Nat.le_trans HB2.out.size h)⟩)
      clear hg5 hc5 hs5 HPU k1 k2
      go_wp2
      go_ret
      exact ⟨rfl, v5, HG5.out⟩
    · clear k1 k2
      go_wp2
      go_ret
      exact ⟨rfl, _, HG2.out, Chg.of_below HB2.out _, fun j hj => .inl hj⟩
end Go.Proofs.Ytiiollgipfggmaa
