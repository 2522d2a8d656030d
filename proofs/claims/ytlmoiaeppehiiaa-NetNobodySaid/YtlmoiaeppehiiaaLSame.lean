/- Entries that are the same. -/
import Derived.Test.YtlmoiaeppehiiaaLNew
import Derived.Shelf.Bytes.SlEqualAll
import Derived.Laws.StructEq
namespace Go.Proofs.Ytlmoiaeppehiiaa
set_option linter.unusedVariables false
set_option linter.unusedSimpArgs false
open Go.RowKit

theorem By.inB {w : World} {p : Option Addr} {n cap : Nat} {l : List UInt8} (h : By w (.slice p n cap) l) : Lib.BytesIn w p n (Lib.numsL l) ∧ (Lib.numsL l).length = n := by
  obtain ⟨p', cap', e, hl, hm, hn, hc⟩ := h
  injection e with e1 e2 e3
  subst e1 e2 e3
  refine ⟨?_, Lib.numsL_length l⟩
  rcases p with _ | a
  · have h0 : l.length = 0 := by have := hn rfl; omega
    rw [h0]
    exact Lib.BytesIn.nil _ _ _
  · exact Lib.BytesIn.of_cells (fun i hi => by
      rw [hc a rfl i l[i] (List.getElem?_eq_getElem hi)]
      simp [bv, Lib.numsL, List.getD, hi])
set_option maxRecDepth 200000 in
set_option maxHeartbeats 4000000 in
theorem same_any {w : World} {v u : Value} {L : List En} (hv : Ens w v L) (hu : Ens w u L) : Calls Try.prog 50 #[v, u] w fun e w' => e = .returned (.bool true) ∧ Below w.heap.size w w' := by
  obtain ⟨p, n, c, rfl⟩ := hv.sl
  obtain ⟨p2, n2, c2, rfl⟩ := hu.sl
  obtain ⟨rfl, h1, h2⟩ := hv.len
  obtain ⟨rfl, _, _⟩ := hu.len
  have h9 : (L.length : Int) ≤ 9223372036854775807 := by unfold maxLen at h2; omega
  have HV := hide hv
  have HU := hide hu
  clear hv hu h1 h2
  go_enter Try.func50, Try.ntmps50
  go_wp2_with fail
  go_loopw [5, 13] (fun _ i wr => ∃ k q : Nat, k ≤ L.length ∧ i = .int .i64 k ∧ wr = w.drewN q) (fun _ i _ => L.length - (intOf i).toNat)
  case atStart => exact ⟨0, 0, by omega, rfl, rfl⟩
  case round =>
    obtain ⟨k, q, hk, rfl, rfl⟩ := hrel
    by_cases hlt : k < L.length
    · obtain ⟨e, he⟩ : ∃ e, L[k]? = some e := ⟨_, List.getElem?_eq_getElem hlt⟩
      obtain ⟨g, o, pd, nd, cd, rfl, hat, hby, hnd⟩ := HV.out.at_ he
      obtain ⟨g', o', pd', nd', cd', rfl, hat', hby', hnd'⟩ := HU.out.at_ he
      have c0 := hat.c0
      have c1 := hat.c1
      have c2' := hat.c2
      have d0 := hat'.c0
      have d1 := hat'.c1
      have d2 := hat'.c2
      dsimp only at c0 c1 c2' d0 d1 d2
      have k1 := conv_by hby
      have k2 := conv_by hby'
      have j0 : (0 : Int) ≤ (k : Int) := by omega
      have j1 : (k : Int) < (L.length : Int) := by omega
      clear he hat hat' hby hby' hnd hnd'
      go_wp2_with fail
      go_quiet (fail)
      go_wp2
      go_roundw
      case rel => exact ⟨k + 1, _, by omega, by go_num, rfl⟩
      case measure => simp [intOf]; omega
    · go_wp2
      go_ret
      exact ⟨rfl, bel_drewN (Below.refl _ _) _⟩
end Go.Proofs.Ytlmoiaeppehiiaa
