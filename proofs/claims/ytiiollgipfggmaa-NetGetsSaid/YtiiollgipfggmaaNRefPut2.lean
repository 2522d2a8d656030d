/- A message's bytes, or that it may not be: the document's Put. -/
import Derived.Test.YtiiollgipfggmaaNRefPut
namespace Go.Proofs.Ytiiollgipfggmaa
set_option linter.unusedVariables false
set_option linter.unusedSimpArgs false
open Go.RowKit

set_option maxRecDepth 200000 in
set_option maxHeartbeats 4000000 in
theorem refPut_any {w : World} {m : Ms} {ve vv vd : Value} (h : MsV w m ve vv vd) : Calls Try.prog 14 #[msA m ve vv vd] w (PutPost w m) := by
  obtain ⟨q, hq⟩ : ∃ q, okM m = q := ⟨_, rfl⟩
  cases q with
  | true =>
    refine (refPutOk_any h hq).mono ?_
    rintro e w' ⟨v, rfl, ho, hb⟩
    unfold PutPost chkM putL
    rw [hq]
    simp only [if_true]
    exact ⟨v, rfl, ho, hb⟩
  | false =>
    have HCK := hide (fun W (hW : Below w.heap.size w W) => refCheckM_any (h.below hW))
    obtain ⟨pe, ne, ce, rfl⟩ := h.es.sl
    obtain ⟨pv, nv, cv, rfl⟩ := h.vs.sl
    obtain ⟨pd, nd, cd, rfl⟩ := h.d.sl
    have HB0 := hide ((Below.refl w.heap.size w).alloc (Nat.le_refl _) (.cells #[.int .i64 m.k, .int .i64 m.f, .int .i64 m.t, .int .i64 m.tm, .int .i64 m.ix, .int .i64 m.lt, .int .i64 m.cm, .int .i64 m.rd, .bool m.ys, .bool m.dn, .slice pe ne ce, .slice pv nv cv, .slice pd nd cd] 26))
    have HX0 := hide (Box13.new w 26 (.int .i64 m.k) (.int .i64 m.f) (.int .i64 m.t) (.int .i64 m.tm) (.int .i64 m.ix) (.int .i64 m.lt) (.int .i64 m.cm) (.int .i64 m.rd) (.bool m.ys) (.bool m.dn) (.slice pe ne ce) (.slice pv nv cv) (.slice pd nd cd))
    unfold PutPost putL
    unfold chkM at HCK ⊢
    unfold msA at HCK ⊢
    clear h
    rw [hq] at HCK ⊢
    clear hq
    simp only [Bool.false_eq_true, if_false] at HCK ⊢
    go_enter Try.func14, Try.ntmps14
    obtain ⟨y0, y1, y2, y3, y4, y5, y6, y7, y8, y9, y10, y11, y12⟩ := HX0.out
    go_wp2_with fail
    refine (HCK.out _ HB0.out).mono ?_
    rintro e w3 ⟨rfl, hb3⟩
    have HB3 := hide (HB0.out.trans (hb3.mono HB0.out.size))
    clear hb3
    go_wp2
    refine bodyPost_ret (v := .tuple #[.slice none 0 0, .int .i64 122]) (by simp [results, Try.results14, go_sem]) rfl ⟨_, rfl, Own.nil _ _, HB3.out⟩
end Go.Proofs.Ytiiollgipfggmaa
