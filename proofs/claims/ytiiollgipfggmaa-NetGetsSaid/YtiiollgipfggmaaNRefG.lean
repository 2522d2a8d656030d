/- What the document's Get says, plainly: it is what the program's says. -/
import Derived.Test.YtiiollgipfggmaaNCode
import Derived.Test.YtiiollgipfggmaaNRdQ
namespace Go.Proofs.Ytiiollgipfggmaa
set_option linter.unusedVariables false
set_option linter.unusedSimpArgs false

theorem refP_in {P : List UInt8} (h : okM (refP P) = true) : MIn (refP P) := by
  refine ⟨h, fun x hx => ?_, fun e he => ?_, fun x hx => ?_⟩
  · unfold refP Ms.nums at hx
    dsimp only at hx
    exact rdH_fits P x hx
  · unfold refP rfE at he
    dsimp only at he
    exact rfEs_fits (rdC_le P) _ e he
  · unfold refP rfW at hx
    dsimp only at hx
    exact rdNs_fits (rfV_le P) _ x hx
theorem refGet_eq {l P : List UInt8} {K : Nat} (hP : pickL l = (P, K, 0)) (hK : ¬ K < l.length) :
    getI l = if ((rfD P).2.2 = 0 ∧ okM (refP P) = true) ∧ recL (payL (refP P)) = l then (refP P, 0) else (ms0, 122) := by
  unfold getI
  rw [hP]
  dsimp only
  rw [if_neg (by omega), if_neg hK]
  obtain ⟨h1, h2, h3, h4⟩ := pick_ok hP
  have hl : recL P = l := by rw [← h2, List.take_of_length_le (by omega)]
  have hin' := fun h => refP_in (P := P) h
  obtain ⟨mq, hmq⟩ : ∃ m, refP P = m := ⟨_, rfl⟩
  rw [hmq] at hin' ⊢
  by_cases hq : (okM (readP P) && (payL (readP P) == P)) = true
  · rw [if_pos hq]
    rw [Bool.and_eq_true] at hq
    have hp : payL (readP P) = P := by simpa using hq.2
    obtain ⟨m, hm⟩ : ∃ m, readP P = m := ⟨_, rfl⟩
    rw [hm] at hq hp ⊢
    have hr := refP_pay (okM_ok hq.1) (by rw [hp]; omega)
    rw [hp] at hr
    rw [← hmq, hr.1, hr.2, if_pos ⟨⟨rfl, hq.1⟩, by rw [hp, hl]⟩]
  · rw [if_neg hq]
    rw [if_neg]
    rintro ⟨⟨ha, hb⟩, hc⟩
    apply hq
    have hin := hin' hb
    have hpk := pick_rec (payL mq) (by have := hin.len; omega) []
    rw [List.append_nil, hc, hP] at hpk
    have hpp : P = payL mq := congrArg Prod.fst hpk
    have hrd := hin.read
    rw [← hpp] at hrd
    rw [hrd, hb, ← hpp]
    simp
end Go.Proofs.Ytiiollgipfggmaa
