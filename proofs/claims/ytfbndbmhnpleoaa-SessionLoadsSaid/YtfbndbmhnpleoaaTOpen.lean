/- Open. -/
import Derived.Test.YtfbndbmhnpleoaaTSmall
namespace Go.Proofs.Ytfbndbmhnpleoaa
set_option linter.unusedVariables false
set_option linter.unusedSimpArgs false
open Go.RowKit

theorem Chg.belowed {a b c : World} {S : Nat → Prop} (h : Chg a b S) (h' : Below b.heap.size b c) : Chg a c S := h.trans (Chg.of_below h' (fun _ => False)) (fun k e => e.elim)
theorem Chg.nope {a b : World} (h : Chg a b fun _ => False) (S : Nat → Prop) : Chg a b S := h.mono fun k e => e.elim
/-- What a call that changes a table says. -/
def TabPost (w : World) (g b : Nat) (n : Int) (L : List St) (e : Ending) (w' : World) : Prop := e = .returned (.int .i64 n) ∧ TbIs w' g b L ∧ Chg w w' (fun k => k = b)

set_option maxRecDepth 200000 in
set_option maxHeartbeats 2000000 in
theorem open_any {w : World} {g b : Nat} {L : List St} (h : TbIs w g b L) {n : Int} (hk : (Lit.int .i64 n).wf = true) : Calls Try.prog 11 #[.pointer (some ⟨g, 0, none⟩), .int .i64 n] w (TabPost w g b (openT L n).1 (openT L n).2) := by
  have HM := hide (made_any h.c0)
  have HC := fun w => count_any w n
  have HH := hide h
  have HK := hide hk
  have hL8 := h.ok.len
  have HOK : Hid (TbOk (openT L n).2) := hide (h.ok.open_ n)
  obtain ⟨u, hu⟩ : ∃ u, (fndT L n).getD st0 = u := ⟨_, rfl⟩
  obtain ⟨th, hth⟩ : ∃ th, (fndT L n).isSome = th := ⟨_, rfl⟩
  have HU := hide hu
  have HTH := hide hth
  clear h hk hu hth
  go_enter Try.func11, Try.ntmps11
  go_wp2_with fail
  refine HM.out.mono ?_
  rintro e X ⟨rfl, hcX⟩
  have hX := HH.out.chg hcX (fun e => e) (fun e => e)
  have c0 := hX.c0
  obtain ⟨D, hD⟩ := hX.map
  have hl : (Instr.lookup 54 (.map (some b)) (.int .i64 n) true).run Try.prog X = .ok (.tuple #[stV u, .bool th]) X := by
    have := (hD.look HK.out 0).1
    rwa [HU.out, HTH.out] at this
  have HD := hide hD
  have HX := hide hX
  have HCX := hide hcX
  clear hX hD hcX
  obtain ⟨s, q, a, ⟨e1, e2, e3, e4, e5, e6, e7, e8⟩⟩ := u
  unfold stV at hl
  dsimp only at hl
  have hgX := HX.out.gl
  have hgn : g ≠ X.heap.size := by omega
  obtain ⟨Y, hY⟩ : ∃ Y, X.alloc (.cells #[.int .i64 s, .int .i64 q, .int .i64 a, .int .i64 e1, .int .i64 e2, .int .i64 e3, .int .i64 e4, .int .i64 e5, .int .i64 e6, .int .i64 e7, .int .i64 e8] 51) = Y := ⟨_, rfl⟩
  have c0Y : Y.cell? ⟨g, 0, none⟩ = some (.map (some b)) := by rw [← hY]; exact Lib.cell?_alloc_some _ c0
  have HY : Hid (TbIs Y g b L) := hide (by rw [← hY]; exact HX.out.alloc _)
  have HCY : Hid (Chg w Y (fun _ => False)) := hide (by rw [← hY]; exact HCX.out.alloc _)
  cases th
  · have hf : fndT L n = none := by have := HTH.out; simpa using this
    cases hc : c40 n
    · have HR : Hid (openT L n = (1, L)) := hide (by unfold openT; rw [hf, hc]; rfl)
      rw [hc] at HC
      clear hf hc
      go_wp2_with fail
      refine (HC _).mono ?_
      rintro e w1 ⟨rfl, rfl⟩
      go_wp2
      go_ret
      rw [HR.out]
      exact ⟨by rfl, HY.out, HCY.out.nope _⟩
    · rw [hc] at HC
      obtain ⟨D2, hD2⟩ := HY.out.map
      have hlen := hD2.map.len Try.underlying54 3
      rw [hD2.rd.size] at hlen
      have HD2 := hide hD2
      clear hD2
      by_cases h8 : (8 : Int) ≤ (L.length : Int)
      · have HR : Hid (openT L n = (7, L)) := hide (by unfold openT; rw [hf, hc, if_neg (by simp), if_pos (by omega)])
        clear hf hc
        go_wp2_with fail
        refine (HC _).mono ?_
        rintro e w1 ⟨rfl, rfl⟩
        go_wp2
        go_ret
        rw [HR.out]
        exact ⟨by rfl, HY.out, HCY.out.nope _⟩
      · have HR : Hid (openT L n = (0, insT L ⟨n, 0, n, rp0⟩)) := hide (by unfold openT; rw [hf, hc, if_neg (by simp), if_neg (by omega)])
        clear hf hc
        obtain ⟨w2, D3, hrun, hg2, hm2⟩ := HD2.out.store (x := ⟨n, 0, n, rp0⟩) HK.out (by simp [maxLen]; omega)
        unfold stV rp0 at hrun
        dsimp only at hrun
        have HG2 := hide hg2
        have HM2 := hide hm2
        clear hg2 hm2
        go_wp2_with fail
        refine (HC _).mono ?_
        rintro e w1 ⟨rfl, rfl⟩
        go_wp2
        go_ret
        have hc2 : Chg Y w2 (fun k => k = b) := Chg.of_grown HG2.out _ (fun k e => by injection e with e; exact .inl e.symm)
        rw [HR.out] at HOK ⊢
        exact ⟨by rfl, HY.out.with_ hc2 HM2.out HOK.out, (HCY.out.nope _).trans hc2 fun k hk => .inl hk⟩
  · obtain ⟨y, hf⟩ := Option.isSome_iff_exists.1 HTH.out
    have HR : Hid (openT L n = (1, L)) := hide (by unfold openT; rw [hf]; rfl)
    clear hf
    go_wp2
    go_ret
    rw [HR.out]
    exact ⟨by rfl, HY.out, HCY.out.nope _⟩
end Go.Proofs.Ytfbndbmhnpleoaa
