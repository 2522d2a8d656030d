/- A message's bytes: the program. -/
import Derived.Test.YtiiollgipfggmaaNChk
import Derived.Test.YtiiollgipfggmaaWRec
namespace Go.Proofs.Ytiiollgipfggmaa
set_option linter.unusedVariables false
set_option linter.unusedSimpArgs false
open Go.RowKit

/-- What a message that may be has. -/
structure MOk (m : Ms) : Prop where
  es8 : m.es.length ≤ 8
  ed : ∀ e ∈ m.es, e.d.length ≤ 4096
  et : ∀ e ∈ m.es, 0 ≤ e.t ∧ e.t ≤ 1099511627776
  ei : ∀ (k : Nat) e, m.es[k]? = some e → e.i = m.ix + k + 1
  vs7 : m.vs.length ≤ 7
  vv : ∀ x ∈ m.vs, 0 ≤ x ∧ x < 7
  d5 : m.d.length ≤ 512
  ns : ∀ x ∈ m.nums, 0 ≤ x ∧ x ≤ 1099511627776
theorem okFrom_len : ∀ {lo : Int} {l : List Int}, lo ≤ 7 → okFrom lo l = true → lo + l.length ≤ 7
  | lo, [], h, _ => by simpa using h
  | lo, n :: r, _, h => by
    simp only [okFrom, Bool.and_eq_true, decide_eq_true_eq] at h
    have := okFrom_len (lo := n + 1) (by omega) h.2
    simp only [List.length_cons]
    omega
theorem nilL_nil {α : Type} {l : List α} (h : nilL l = true) : l = [] := List.eq_nil_of_length_eq_zero (of_decide_eq_true h)
theorem okM_ok {m : Ms} (h : okM m = true) : MOk m := by
  unfold okM at h
  rw [Bool.and_eq_true, Bool.and_eq_true] at h
  obtain ⟨⟨hg, hc⟩, hr⟩ := h
  have hk : 0 ≤ m.k ∧ m.k ≤ 6 := by
    by_cases h1 : bare m.k = true
    · simp only [bare, Bool.or_eq_true, decide_eq_true_eq] at h1
      omega
    · by_cases h3 : m.k = 3
      · omega
      · by_cases h5 : m.k = 5
        · omega
        · rw [carM_no (Bool.eq_false_iff.2 h1) h3 h5] at hr
          cases hr
  have hn : ∀ x ∈ m.nums, 0 ≤ x ∧ x ≤ 1099511627776 := by
    simp only [goM, isN, cntM, cnt0, Bool.and_eq_true, decide_eq_true_eq] at hg hc
    intro x hx
    simp only [Ms.nums, List.mem_cons, List.not_mem_nil, or_false] at hx
    omega
  by_cases h1 : bare m.k = true
  · rw [carM_bare h1] at hr
    unfold bareM at hr
    rw [Bool.and_eq_true, Bool.and_eq_true] at hr
    have e1 := nilL_nil hr.1.1
    have e2 := nilL_nil hr.1.2
    have e3 := nilL_nil hr.2
    exact ⟨by rw [e1]; simp, by rw [e1]; simp, by rw [e1]; simp, by rw [e1]; simp, by rw [e2]; simp, by rw [e2]; simp, by rw [e3]; simp, hn⟩
  · by_cases h3 : m.k = 3
    · rw [carM_3 h3] at hr
      unfold appM at hr
      simp only [Bool.and_eq_true, decide_eq_true_eq] at hr
      obtain ⟨⟨a, b⟩, ⟨c, d, e⟩, f⟩ := hr
      have e2 := nilL_nil a
      have e3 := nilL_nil b
      have hl := good_le d
      have hgo := goOn_get e hl.1 hl.2.1
      have hmem : ∀ x ∈ m.es, ∃ k : Nat, m.es[k]? = some x := fun x hx => List.mem_iff_getElem?.1 hx
      refine ⟨c, fun x hx => ?_, fun x hx => ?_, fun k x hx => ?_, by rw [e2]; simp, by rw [e2]; simp, by rw [e3]; simp, hn⟩
      · obtain ⟨k, hk⟩ := hmem x hx
        exact (hgo k x hk).2.2.2.2.2
      · obtain ⟨k, hk⟩ := hmem x hx
        have := hgo k x hk
        omega
      · exact (hgo k x hx).1
    · by_cases h5 : m.k = 5
      · rw [carM_5 h5] at hr
        unfold insM at hr
        simp only [Bool.and_eq_true, decide_eq_true_eq] at hr
        obtain ⟨a, ⟨⟨⟨b, c⟩, d⟩, e⟩, f⟩ := hr
        have e1 := nilL_nil a
        have hv := okR_mem e
        have hl : m.vs.length ≤ 7 := by
          unfold okR at e
          rw [Bool.and_eq_true] at e
          have := okFrom_len (by omega) e.2
          omega
        exact ⟨by rw [e1]; simp, by rw [e1]; simp, by rw [e1]; simp, by rw [e1]; simp, hl, hv, f, hn⟩
      · rw [carM_no (Bool.eq_false_iff.2 h1) h3 h5] at hr
        cases hr
theorem numB_len {n : Int} (h : fits n) : (numB n).length ≤ 9 := digits_length _ (by unfold fits at h; omega)
theorem nsB_len : ∀ {l : List Int}, (∀ x ∈ l, fits x) → (nsB l).length ≤ l.length * 9
  | [], _ => by simp [nsB]
  | n :: r, h => by
    rw [nsB_cons, List.length_append, List.length_cons]
    have := numB_len (h n (List.mem_cons_self ..))
    have := nsB_len fun x hx => h x (List.mem_cons_of_mem _ hx)
    omega
theorem esB_len : ∀ {l : List En}, (∀ e ∈ l, fits e.t) → (∀ e ∈ l, e.d.length ≤ 4096) → (esB l).length ≤ l.length * 4114
  | [], _, _ => by simp [esB]
  | e :: r, h, h' => by
    rw [esB_cons, List.length_append, List.length_cons]
    have h1 := numB_len (h e (List.mem_cons_self ..))
    have h2 := h' e (List.mem_cons_self ..)
    have h3 := digits_length e.d.length (by omega)
    have := esB_len (fun x hx => h x (List.mem_cons_of_mem _ hx)) (fun x hx => h' x (List.mem_cons_of_mem _ hx))
    unfold enB
    rw [List.length_append, List.length_append]
    omega
theorem MOk.headB_len {m : Ms} (h : MOk m) (hf : m.Fits) : (headB m).length ≤ 90 := by
  unfold headB
  have h1 := nsB_len (l := m.nums) hf
  have h2 := digits_length m.ys.toNat (by cases m.ys <;> decide)
  have h3 := digits_length m.dn.toNat (by cases m.dn <;> decide)
  have h4 : m.nums.length = 8 := rfl
  rw [List.length_append, List.length_append]
  omega
theorem MOk.pay_len {m : Ms} (h : MOk m) (hf : m.Fits) (he : ∀ e ∈ m.es, fits e.t) (hv : ∀ x ∈ m.vs, fits x) : (payL m).length ≤ 40000 := by
  unfold payL
  have h1 := h.headB_len hf
  have h2 := esB_len he h.ed
  have h3 := nsB_len hv
  have h4 := h.es8
  have h5 := h.vs7
  have h6 := h.d5
  have h7 := digits_length m.es.length (by omega)
  have h8 := digits_length m.vs.length (by omega)
  have h9 := digits_length m.d.length (by omega)
  simp only [List.length_append]
  omega

set_option maxRecDepth 200000 in
set_option maxHeartbeats 4000000 in
theorem numbers_any {w : World} {v u : Value} {l : List UInt8} {L : List Int} (hv : By w v l) (hu : Ns w u L) (hl : l.length ≤ 500000) (hL : L.length ≤ 100) :
    Calls Try.prog 70 #[v, u] w fun e w' => ∃ v', e = .returned v' ∧ By w' v' (l ++ nsB L) ∧ Below w.heap.size w w' := by
  obtain ⟨p, n, c, rfl⟩ := hv.sl
  obtain ⟨q, m, d, rfl⟩ := hu.sl
  have hmn := hu.len.1
  subst hmn
  have HV := hide hv
  have HU := hide hu
  have HL := hide (And.intro hl hL)
  clear hv hu hl
  go_enter Try.func70, Try.ntmps70
  go_wp2_with fail
  go_loopw [0, 6, 9] (fun b _ i wr => ∃ k : Nat, k ≤ L.length ∧ i = .int .i64 k ∧ (∃ p n c, b = .slice p n c) ∧ Hid (By wr b (l ++ nsB (L.take k)) ∧ Below w.heap.size w wr)) (fun _ _ i _ => L.length - (intOf i).toNat)
  case atStart => exact ⟨0, by omega, rfl, ⟨_, _, _, rfl⟩, hide ⟨by rw [List.take_zero]; simpa [nsB] using HV.out, Below.refl _ _⟩⟩
  case round =>
    obtain ⟨k, hk, rfl, ⟨pb, nb, cb, rfl⟩, HR⟩ := hrel
    by_cases hlt : k < L.length
    · have hx := List.getElem?_eq_getElem hlt
      obtain ⟨x, hxx⟩ : ∃ x, L[k] = x := ⟨_, rfl⟩
      rw [hxx] at hx
      have HT : Hid (L.take (k + 1) = L.take k ++ [x]) := hide (by rw [List.take_add_one, hx]; rfl)
      have HF : Hid (fits x) := hide (HU.out.fits x (List.mem_of_getElem? hx))
      obtain ⟨g, o, rfl, hc⟩ := HU.out.at_ (by omega)
      have c0 : wr.cell? ⟨g, o + k, none⟩ = some (.int .i64 x) := (HR.out.2.cell (lt_of_cell (hc k x hx))).trans (hc k x hx)
      have HLN : Hid ((l ++ nsB (L.take k)).length ≤ 1000000) := hide (by
        have h1 := nsB_len (l := L.take k) fun y hy => HU.out.fits y (List.mem_of_mem_take hy)
        have h2 := HL.out
        rw [List.length_take] at h1
        rw [List.length_append]
        omega)
      clear hx hxx hc
      go_wp2_with fail
      refine (wireNumber_any HR.out.1 (by have := HLN.out; omega) x x.toNat (by omega) (by have := HF.out; unfold fits at this; unfold lim; omega)).mono ?_
      rintro e w2 ⟨v2, rfl, ho2, hb2⟩
      have HO2 := hide ho2.by_
      have HB2 := hide (HR.out.2.trans (hb2.mono HR.out.2.size))
      obtain ⟨p2, n2, c2, rfl⟩ := ho2.by_.sl
      clear ho2 hb2 c0
      go_wp2
      go_roundw
      case rel => exact ⟨k + 1, by omega, by go_num, ⟨_, _, _, rfl⟩, hide ⟨by rw [HT.out, nsB_snoc, ← List.append_assoc]; exact HO2.out, HB2.out⟩⟩
      case measure => simp [intOf]; omega
    · have HT : Hid (L.take k = L) := hide (List.take_of_length_le (by omega))
      go_wp2
      go_ret
      exact ⟨_, rfl, by have := HR.out.1; rwa [HT.out] at this, HR.out.2⟩
end Go.Proofs.Ytiiollgipfggmaa
