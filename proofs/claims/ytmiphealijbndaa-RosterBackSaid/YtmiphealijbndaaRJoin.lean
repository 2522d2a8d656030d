/- The document's Join. -/
import Derived.Test.YtmiphealijbndaaRMove
import Derived.Deep.QuietTactic
import Derived.BigQuiet
import Derived.IntWalk
import Derived.Deep.DrawnRows
import Derived.Deep.RegionHeld3

namespace Go.Proofs.Ytmiphealijbndaa
set_option linter.unusedVariables false
set_option linter.unusedSimpArgs false
open Go.RowKit

theorem rise_perm : ∀ {l m : List Int}, l.Pairwise (· ≤ ·) → m.Pairwise (· ≤ ·) → l.Perm m → l = m
  | [], m, _, _, h => h.symm.eq_nil.symm
  | x :: r, [], _, _, h => absurd h.eq_nil (by simp)
  | x :: r, y :: s, .cons a b, .cons c d, h => by
    have h1 := h.mem_iff.1 (List.mem_cons_self (a := x) (l := r))
    have h2 := h.mem_iff.2 (List.mem_cons_self (a := y) (l := s))
    have e : x = y := by
      rcases List.mem_cons.1 h1 with e | e
      · exact e
      · rcases List.mem_cons.1 h2 with e' | e'
        · exact e'.symm
        · have := c x e
          have := a y e'
          omega
    subst e
    rw [rise_perm b d (List.Perm.cons_inv h)]
theorem sortN_least {R : List Int} {m : Nat} {x : Int} (hm : R[m]? = some x) (hx : ∀ y ∈ R, x ≤ y) : sortN R = x :: sortN (R.take m ++ R.drop (m + 1)) := by
  obtain ⟨hl, rfl⟩ := List.getElem?_eq_some_iff.1 hm
  have hp : (R[m] :: (R.take m ++ R.drop (m + 1))).Perm R := by
    have h1 : R = R.take m ++ R[m] :: R.drop (m + 1) := by rw [← List.drop_eq_getElem_cons hl, List.take_append_drop]
    conv => rhs; rw [h1]
    exact List.perm_middle.symm
  refine rise_perm (sortN_rise _) (List.Pairwise.cons (fun y hy => ?_) (sortN_rise _)) ?_
  · have := (sortN_perm _).mem_iff.1 hy
    exact hx y (hp.mem_iff.1 (List.mem_cons_of_mem _ this))
  · exact (sortN_perm R).trans (hp.symm.trans ((sortN_perm _).symm.cons _))
theorem sortN_nil : sortN [] = [] := by simp [sortN]

theorem Ns.pre {w : World} {g o n c : Nat} {l : List Int} (h : Ns w (.slice (some ⟨g, o, none⟩) n c) l) (m : Nat) (hm : m ≤ n) : Ns w (.slice (some ⟨g, o, none⟩) m c) (l.take m) := by
  have hn := h.len
  refine ⟨some ⟨g, o, none⟩, c, by rw [List.length_take, Nat.min_eq_left (by omega)], by rw [List.length_take]; omega, hn.2.2, (fun e => by cases e), fun x hx => h.fits x (List.mem_of_mem_take hx), fun h0 => ?_⟩
  rw [List.length_take] at h0
  obtain ⟨g', o', e, hc⟩ := h.at_ (by omega)
  refine ⟨g', o', e, fun i x hi => ?_⟩
  have hil := (List.getElem?_eq_some_iff.1 hi).1
  rw [List.length_take] at hil
  rw [List.getElem?_take_of_lt (by omega)] at hi
  exact hc i x hi
theorem Ns.suf {w : World} {g o n c : Nat} {l : List Int} (h : Ns w (.slice (some ⟨g, o, none⟩) n c) l) (k : Nat) (hk : k ≤ n) (p : Option Addr) (hp : k < n → p = some ⟨g, o + k, none⟩) (hn0 : p = none → c - k = 0) : Ns w (.slice p (n - k) (c - k)) (l.drop k) := by
  have hn := h.len
  refine ⟨p, c - k, by rw [List.length_drop, hn.1], by rw [List.length_drop]; omega, by have := hn.2.2; omega, hn0, fun x hx => h.fits x (List.mem_of_mem_drop hx), fun h0 => ?_⟩
  rw [List.length_drop] at h0
  obtain ⟨g', o', e, hc⟩ := h.at_ (by omega)
  injection e with e
  injection e with e1 e2
  subst e1 e2
  refine ⟨g, o + k, hp (by omega), fun i x hi => ?_⟩
  rw [List.getElem?_drop] at hi
  rw [Nat.add_assoc]
  exact hc (k + i) x hi

theorem step_append_runN {w : World} {ops : Array Oper} {o : Oper} {a : Act} {K : Act → World → Prop} {Q : Exit → Act → World → Prop} {E : Prop} (hgd : o.guard = none) (s x : Operand)
    (ho : o.op = .call { callee := .builtin .append, args := #[s, x], argTypes := #[22, 22] }) (hty : o.type = 22) {v u v' : Value} {w' : World}
    (hs : a.eval s = v) (hx : a.eval x = u) (hr : (Builtin.append_ #[22, 22] 22 #[v, u]).run Try.prog w = .ok v' w')
    (h : K (a.put o.dst v') w') : if Region.wanted o (yielded ops a.tmps) = true then Oper.wp Try.prog o a w K Q else E := by
  have hw : Region.wanted o (yielded ops a.tmps) = true := by simp [Region.wanted, hgd]
  rw [if_pos hw]
  exact Lib.wp_append_run_sl w s x 22 ho v u hs hx (by rw [hty]; exact hr) h
theorem step_pushesN {V : World} {ops : Array Oper} {o : Oper} {a : Act} {K : Act → World → Prop} {Q : Exit → Act → World → Prop} {E : Prop} (hgd : o.guard = none) (s x : Operand)
    (ho : o.op = .call { callee := .builtin .append, args := #[s, x], argTypes := #[22, 22] }) (hty : o.type = 22) {B : Nat} {v u : Value} {l m : List Int}
    (hs : a.eval s = v) (hx : a.eval x = u) (h : OwnN B V v l) (hu : Ns V u m) (hB : B ≤ V.heap.size) (hn : (l.length + m.length) * 8 ≤ 140737488355328)
    (hK : ∀ v' V', OwnN B V' v' (l ++ m) → Below B V V' → V.grownBy V' v.ownBlock → K (a.put o.dst v') V') : if Region.wanted o (yielded ops a.tmps) = true then Oper.wp Try.prog o a V K Q else E := by
  obtain ⟨v', w', hr, h1, h2, h3⟩ := run_pushesN h hu hB hn
  exact step_append_runN hgd s x ho hty hs hx hr (hK v' w' h1 h2 h3)

set_option maxRecDepth 200000 in
set_option maxHeartbeats 4000000 in
theorem refJoin_any {w : World} {v : Value} {l : List Int} {n : Int} (hv : Ns w v l) (h9 : l.length ≤ 1000) (hn : fits n) : Calls Try.prog 25 #[v, .int .i64 n] w (NsPost w (joinN l n)) := by
  have HV : Hid (Calls Try.prog 17 #[v, .int .i64 n] w (Vts w l n)) := hide (refVotes_any hv)
  obtain ⟨p, m, c, rfl⟩ := hv.sl
  unfold Vts at HV
  have HN := hide hn
  have HW := hide hv
  clear hv hn
  obtain ⟨q, hq⟩ : ∃ q, hasN l n = q := ⟨_, rfl⟩
  have HJ : Hid (joinN l n = if q then l else sortN (l ++ [n])) := hide (by unfold joinN; rw [hq])
  rw [hq] at HV
  clear hq
  go_enter Try.func25, Try.ntmps25
  go_wp2_with fail
  refine HV.out.mono ?_
  rintro e w' ⟨rfl, rfl⟩
  cases q
  · simp only [Bool.false_eq_true, if_false] at HJ
    have bE := (Below.refl w.heap.size w).alloc (Nat.le_refl _) (.cells #[] 3)
    have oE : OwnN w.heap.size (w.alloc (.cells #[] 3)) (.slice (some ⟨w.heap.size, 0, none⟩) 0 0) [] := ⟨World.ownsRow_lit w #[] 0 (Nat.le_refl _) (by decide) rfl, by simp⟩
    have HW1 := hide (HW.out.below bE)
    have HB1 := hide bE
    have HO1 := hide oE
    clear bE oE
    have HL9 : Hid (l.length ≤ 1000) := hide h9
    clear h9
    go_wp2_with (at_builtin; first
      | (refine wpList_pushesN (v := .slice (some ⟨w.heap.size, 0, none⟩) 0 0) (u := .slice p m c) (l := []) (m := l) (B := w.heap.size) rfl (.tmp 13) (.tmp 14) rfl rfl rfl rfl HO1.out HW1.out HB1.out.size (by have := HL9.out; simp; omega) ?_; intro v2 w2 ho2 hb2 hg2; rw [List.nil_append] at ho2; obtain ⟨p2, n2, c2, rfl⟩ := ho2.ns.sl; have HO2 := hide ho2; have HB2 := hide (HB1.out.trans hb2); clear ho2 hb2 hg2)
      | (go_loud (refine wpList_pushN (w := w2) (v := .slice p2 n2 c2) (l := l) (B := w.heap.size) (H := w2.heap.size) rfl (.tmp 15) (.tmp 17) rfl rfl n HN.out rfl rfl rfl HO2.out HB2.out.size (by have := HL9.out; omega) ?_); intro v3 w3 ho3 hb3 hg3; obtain ⟨p3, n3, c3, rfl⟩ := ho3.ns.sl; have HO3 := hide ho3; have HB3 := hide (HB2.out.trans hb3); clear ho3 hb3 hg3))
    have HA9 : Hid ((l ++ [n]).length ≤ 1001) := hide (by have := HL9.out; rw [List.length_append]; simp; omega)
    obtain ⟨A, hA⟩ : ∃ A, l ++ [n] = A := ⟨_, rfl⟩
    rw [hA] at HO3 HJ HA9
    clear hA HO1 HO2 HW1 HB1 HB2
    go_loopw [5, 6, 7, 8, 24] (fun v u _ _ _ wr => ∃ (O R : List Int), (∃ p n c, v = .slice p n c) ∧ (∃ p c, u = .slice p R.length c) ∧ R.length ≤ 1001 ∧ Hid (O ++ sortN R = sortN A ∧ OwnN w.heap.size wr v O ∧ OwnN w.heap.size wr u R ∧ (v.ownBlock = none ∨ v.ownBlock ≠ u.ownBlock) ∧ Below w.heap.size w wr)) (fun _ u _ _ _ _ => match u with | .slice _ n _ => n | _ => 0)
    case atStart =>
      refine ⟨[], A, ⟨_, _, _, rfl⟩, ?_, HA9.out, hide ⟨rfl, OwnN.nil _ _, HO3.out, .inl rfl, HB3.out⟩⟩
      obtain ⟨rfl, _⟩ := HO3.out.ns.len
      exact ⟨_, _, rfl⟩
    case round =>
      obtain ⟨O, R, ⟨pv, nv, cv, rfl⟩, ⟨pu, cu, rfl⟩, hR9, HR⟩ := hrel
      by_cases h0 : 0 < R.length
      · obtain ⟨gu, ou, rfl, hcu⟩ := HR.out.2.2.1.ns.at_ h0
        have HCU := hide hcu
        clear hcu
        go_wp2
        go_loopw [7, 8, 24] (fun x _ y wi => ∃ (k m q : Nat), k ≤ R.length ∧ m < R.length ∧ y = .int .i64 k ∧ x = .int .i64 m ∧ wi = wr.drewN q ∧ Hid (∀ j x z, j < k → R[m]? = some x → R[j]? = some z → x ≤ z)) (fun _ _ y _ => R.length - (intOf y).toNat)
        case atStart => exact ⟨0, 0, 0, by omega, h0, rfl, rfl, rfl, hide fun j x z hj => by omega⟩
        case round =>
          obtain ⟨k, m, q, hk, hm, rfl, rfl, rfl, HM⟩ := hrel
          by_cases hlt : k < R.length
          · have hk1 := HCU.out k _ (List.getElem?_eq_getElem hlt)
            have hm1 := HCU.out m _ (List.getElem?_eq_getElem hm)
            have HK : Hid (R[k]? = some R[k]) := hide (List.getElem?_eq_getElem hlt)
            have HM1 : Hid (R[m]? = some R[m]) := hide (List.getElem?_eq_getElem hm)
            obtain ⟨x, hx⟩ : ∃ x, R[k] = x := ⟨_, rfl⟩
            obtain ⟨y, hy⟩ : ∃ y, R[m] = y := ⟨_, rfl⟩
            rw [hx] at hk1 HK
            rw [hy] at hm1 HM1
            clear hx hy
            by_cases hxy : x < y
            · have e1 : decide (x < y) = true := by simpa using hxy
              have HX : Hid (∀ j x z, j < k + 1 → R[k]? = some x → R[j]? = some z → x ≤ z) := hide fun j x' z hj h1 h2 => by
                rw [HK.out] at h1
                obtain rfl : x = x' := by simpa using h1
                by_cases e : j = k
                · subst e
                  rw [HK.out] at h2
                  have : x = z := by simpa using h2
                  omega
                · have := HM.out j y z (by omega) HM1.out h2
                  omega
              clear HM HK HM1 hxy
              go_wp2
              go_quiet (fail)
              go_wp2
              go_roundw
              case rel => exact ⟨k + 1, k, _, by omega, hlt, by go_num, rfl, rfl, HX⟩
              case measure => simp [intOf]; omega
            · have e1 : decide (x < y) = false := by simpa using hxy
              have HX : Hid (∀ j x z, j < k + 1 → R[m]? = some x → R[j]? = some z → x ≤ z) := hide fun j x' z hj h1 h2 => by
                by_cases e : j = k
                · subst e
                  rw [HM1.out] at h1
                  rw [HK.out] at h2
                  have h3 : y = x' := by simpa using h1
                  have : x = z := by simpa using h2
                  omega
                · exact HM.out j x' z (by omega) h1 h2
              clear HM HK HM1 hxy
              go_wp2
              go_quiet (fail)
              go_wp2
              go_roundw
              case rel => exact ⟨k + 1, m, _, by omega, hm, by go_num, rfl, rfl, HX⟩
              case measure => simp [intOf]; omega
          · obtain rfl : k = R.length := by omega
            obtain ⟨x, hx⟩ : ∃ x, R[m]? = some x := ⟨_, List.getElem?_eq_getElem hm⟩
            have hmx := HCU.out m x hx
            have HS : Hid (sortN R = x :: sortN (R.take m ++ R.drop (m + 1))) := hide (sortN_least hx fun y hy => by
              obtain ⟨j, hj, rfl⟩ := List.mem_iff_getElem.1 hy
              exact HM.out j x _ hj hx (List.getElem?_eq_getElem hj))
            have HFX : Hid (fits x) := hide (HR.out.2.2.1.2 x (List.mem_of_getElem? hx))
            have HOL : Hid (O.length ≤ 1001) := hide (by
              have h1 := congrArg List.length HR.out.1
              rw [List.length_append, sortN_length, sortN_length] at h1
              have := HA9.out
              omega)
            have HOV : Hid (OwnN w.heap.size (wr.drewN q) (.slice pv nv cv) O ∧ OwnN w.heap.size (wr.drewN q) (.slice (some ⟨gu, ou, none⟩) R.length cu) R ∧ Below w.heap.size w (wr.drewN q)) := hide ⟨(show OwnN w.heap.size wr (.slice pv nv cv) O from HR.out.2.1), (show OwnN w.heap.size wr (.slice (some ⟨gu, ou, none⟩) R.length cu) R from HR.out.2.2.1), bel_drewN HR.out.2.2.2.2 q⟩
            clear HM hx
            go_wp2_with (at_builtin; go_loud (refine wpList_pushN (w := wr.drewN q) (v := .slice pv nv cv) (l := O) (B := w.heap.size) (H := wr.heap.size) rfl (.tmp 38) (.tmp 43) rfl rfl x HFX.out rfl rfl rfl HOV.out.1 HOV.out.2.2.size (by have := HOL.out; omega) ?_); intro v5 w5 ho5 hb5 hg5)
            obtain ⟨p5, n5, c5, rfl⟩ := ho5.ns.sl
            have hu5 : OwnN w.heap.size w5 (.slice (some ⟨gu, ou, none⟩) R.length cu) R := HOV.out.2.1.grown hg5 (by
              rcases HR.out.2.2.2.1 with h | h
              · rw [h]
                exact .inr (by simp [Value.ownBlock])
              · exact .inr fun e => h e.symm)
            have HB5 := hide (HOV.out.2.2.trans hb5)
            have HO5 := hide ho5
            have HU5 := hide hu5
            have bE := (Below.refl w5.heap.size w5).alloc (Nat.le_refl _) (.cells #[] 3)
            have oE : OwnN w5.heap.size (w5.alloc (.cells #[] 3)) (.slice (some ⟨w5.heap.size, 0, none⟩) 0 0) [] := ⟨World.ownsRow_lit w5 #[] 0 (Nat.le_refl _) (by decide) rfl, by simp⟩
            have HBE := hide (bel_drewN bE 1)
            have HOE : Hid (OwnN w5.heap.size (w5.alloc (.cells #[] 3)).drew (.slice (some ⟨w5.heap.size, 0, none⟩) 0 0) []) := hide oE
            have HUE : Hid (Ns (w5.alloc (.cells #[] 3)).drew (.slice (some ⟨gu, ou, none⟩) R.length cu) R) := hide (show Ns (w5.alloc (.cells #[] 3)) (.slice (some ⟨gu, ou, none⟩) R.length cu) R from hu5.ns.below bE)
            have hcap : R.length ≤ cu ∧ cu ≤ 9223372036854775807 := by
              have := hu5.ns.len
              unfold maxLen at this
              omega
            obtain ⟨hcap1, hcap2⟩ := hcap
            have hm1 : m + 1 ≤ R.length := by omega
            have es : IntKind.i64.wrap ((m : Int) + 1) = (m : Int) + 1 := IntWalk.i64_in _ (by omega)
            clear ho5 hb5 hg5 hu5 bE oE
            have j0 : (0 : Int) ≤ (m : Int) := by omega
            have j1 : (m : Int) ≤ (cu : Int) := by omega
            have j2 : (0 : Int) ≤ (m : Int) + 1 := by omega
            have j3 : (m : Int) + 1 ≤ (R.length : Int) := by omega
            have j4 : (R.length : Int) ≤ (cu : Int) := by omega
            have j5 : ((m : Int) + 1).toNat = m + 1 := by omega
            have j6 : (m : Int) ≤ (R.length : Int) := by omega
            have HM9 : Hid (m + 1 ≤ R.length ∧ R.length ≤ 1001) := hide ⟨hm1, hR9⟩
            have HPRE := hide (HUE.out.pre m (by omega))
            by_cases hcm : cu = m + 1
            · have hRm : R.length = m + 1 := by omega
              subst hcm
              have HSUF : Hid (∀ V, Below w5.heap.size w5 V → Ns V (.slice (some ⟨gu, ou, none⟩) 0 0) (R.drop (m + 1))) := hide fun V hV => by
                have := (HU5.out.ns.below hV).suf (m + 1) hm1 (some ⟨gu, ou, none⟩) (fun h => by omega) (fun e => by cases e)
                rwa [Nat.sub_self, hRm, Nat.sub_self] at this
              have HRM := hide hRm
              have k1 : (m : Int) ≤ (m : Int) + 1 := by omega
              have k4 : (R.length : Int) ≤ (m : Int) + 1 := by omega
              clear hRm
              go_wp2_with fail
              go_region_held3 (fun V => True) (trivial)
                ((first
                  | (refine step_pushesN (by rfl) _ _ (by rfl) (by rfl) (by rfl) (by rfl) HOE.out HPRE.out HBE.out.size (by have := HM9.out; simp; omega) ?_; intro v6 V6 ho6 hb6 hg6; obtain ⟨p6, n6, c6, rfl⟩ := ho6.ns.sl; rw [List.nil_append] at ho6; have H6 := hide (And.intro ho6 (HBE.out.trans hb6)); clear ho6 hb6 hg6)
                  | (refine step_pushesN (by rfl) _ _ (by rfl) (by rfl) (by rfl) (by rfl) H6.out.1 (HSUF.out _ H6.out.2) H6.out.2.size (by have := HM9.out; simp; omega) ?_; intro v7 V7 ho7 hb7 hg7; obtain ⟨p7, n7, c7, rfl⟩ := ho7.ns.sl; have H7 := hide (And.intro ho7 (H6.out.2.trans hb7)); clear ho7 hb7 hg7)))
              have HR7 : Hid ((O ++ [x]) ++ sortN (R.take m ++ R.drop (m + 1)) = sortN A) := hide (by
                  rw [← HR.out.1, HS.out, List.append_assoc]
                  rfl)
              have HL7 : Hid ((R.take m ++ R.drop (m + 1)).length + 1 = R.length) := hide (by
                rw [List.length_append, List.length_take, List.length_drop]
                have := HM9.out
                omega)
              have HB7 : Hid (Below w.heap.size w V7) := hide (HB5.out.trans (H7.out.2.mono HB5.out.size))
              have HO7 : Hid (OwnN w.heap.size V7 (.slice p5 n5 c5) (O ++ [x])) := hide (HO5.out.below H7.out.2)
              have HU7 : Hid (OwnN w.heap.size V7 (.slice p7 n7 c7) (R.take m ++ R.drop (m + 1))) := hide (H7.out.1.mono HB5.out.size)
              have HD7 : Hid ((Value.slice p5 n5 c5).ownBlock = none ∨ (Value.slice p5 n5 c5).ownBlock ≠ (Value.slice p7 n7 c7).ownBlock) := hide (by
                rcases e1 : (Value.slice p5 n5 c5).ownBlock with _ | b
                · exact .inl rfl
                · refine .inr fun e2 => ?_
                  have q1 := (HO5.out.lt b e1).2
                  have q2 := (H7.out.1.lt b e2.symm).1
                  omega)
              obtain ⟨hn7, _, _⟩ := H7.out.1.ns.len
              obtain ⟨R2, hR2⟩ : ∃ R2, R.take m ++ R.drop (m + 1) = R2 := ⟨_, rfl⟩
              rw [hR2] at HR7 HL7 HU7 hn7
              subst hn7
              have hlt7 : R2.length < R.length := by have := HL7.out; omega
              clear hR2 j0 j1 j2 j3 j4 j5 j6 es hcap1 hcap2 hm1
              go_wp2
              go_roundw
              case rel => exact ⟨O ++ [x], R2, ⟨_, _, _, rfl⟩, ⟨_, _, rfl⟩, by omega, hide ⟨HR7.out, HO7.out, HU7.out, HD7.out, HB7.out⟩⟩
              case measure => exact hlt7
            · have HSUF : Hid (∀ V, Below w5.heap.size w5 V → Ns V (.slice (some ⟨gu, ou + (m + 1), none⟩) (R.length - (m + 1)) (cu - (m + 1))) (R.drop (m + 1))) := hide fun V hV => (HU5.out.ns.below hV).suf (m + 1) hm1 _ (fun _ => rfl) (fun e => by cases e)
              go_wp2_with fail
              go_region_held3 (fun V => True) (trivial)
                ((first
                  | (refine step_pushesN (by rfl) _ _ (by rfl) (by rfl) (by rfl) (by rfl) HOE.out HPRE.out HBE.out.size (by have := HM9.out; simp; omega) ?_; intro v6 V6 ho6 hb6 hg6; obtain ⟨p6, n6, c6, rfl⟩ := ho6.ns.sl; rw [List.nil_append] at ho6; have H6 := hide (And.intro ho6 (HBE.out.trans hb6)); clear ho6 hb6 hg6)
                  | (refine step_pushesN (by rfl) _ _ (by rfl) (by rfl) (by rfl) (by rfl) H6.out.1 (HSUF.out _ H6.out.2) H6.out.2.size (by have := HM9.out; simp; omega) ?_; intro v7 V7 ho7 hb7 hg7; obtain ⟨p7, n7, c7, rfl⟩ := ho7.ns.sl; have H7 := hide (And.intro ho7 (H6.out.2.trans hb7)); clear ho7 hb7 hg7)))
              have HR7 : Hid ((O ++ [x]) ++ sortN (R.take m ++ R.drop (m + 1)) = sortN A) := hide (by
                  rw [← HR.out.1, HS.out, List.append_assoc]
                  rfl)
              have HL7 : Hid ((R.take m ++ R.drop (m + 1)).length + 1 = R.length) := hide (by
                rw [List.length_append, List.length_take, List.length_drop]
                have := HM9.out
                omega)
              have HB7 : Hid (Below w.heap.size w V7) := hide (HB5.out.trans (H7.out.2.mono HB5.out.size))
              have HO7 : Hid (OwnN w.heap.size V7 (.slice p5 n5 c5) (O ++ [x])) := hide (HO5.out.below H7.out.2)
              have HU7 : Hid (OwnN w.heap.size V7 (.slice p7 n7 c7) (R.take m ++ R.drop (m + 1))) := hide (H7.out.1.mono HB5.out.size)
              have HD7 : Hid ((Value.slice p5 n5 c5).ownBlock = none ∨ (Value.slice p5 n5 c5).ownBlock ≠ (Value.slice p7 n7 c7).ownBlock) := hide (by
                rcases e1 : (Value.slice p5 n5 c5).ownBlock with _ | b
                · exact .inl rfl
                · refine .inr fun e2 => ?_
                  have q1 := (HO5.out.lt b e1).2
                  have q2 := (H7.out.1.lt b e2.symm).1
                  omega)
              obtain ⟨hn7, _, _⟩ := H7.out.1.ns.len
              obtain ⟨R2, hR2⟩ : ∃ R2, R.take m ++ R.drop (m + 1) = R2 := ⟨_, rfl⟩
              rw [hR2] at HR7 HL7 HU7 hn7
              subst hn7
              have hlt7 : R2.length < R.length := by have := HL7.out; omega
              clear hR2 j0 j1 j2 j3 j4 j5 j6 es hcap1 hcap2 hm1
              go_wp2
              go_roundw
              case rel => exact ⟨O ++ [x], R2, ⟨_, _, _, rfl⟩, ⟨_, _, rfl⟩, by omega, hide ⟨HR7.out, HO7.out, HU7.out, HD7.out, HB7.out⟩⟩
              case measure => exact hlt7
      · obtain rfl : R = [] := List.eq_nil_of_length_eq_zero (by omega)
        have HX : Hid (OwnN w.heap.size wr (.slice pv nv cv) (sortN A) ∧ Below w.heap.size w wr) := hide (by
          have h := HR.out
          rw [sortN_nil, List.append_nil] at h
          rw [← h.1]
          exact ⟨h.2.1, h.2.2.2.2⟩)
        clear HR
        go_wp2
        go_ret
        exact ⟨_, rfl, by rw [HJ.out]; exact HX.out.1.ns, HX.out.2⟩
  · simp only [if_true] at HJ
    go_wp2
    go_ret
    exact ⟨_, rfl, by rw [HJ.out]; exact HW.out, Below.refl _ _⟩
end Go.Proofs.Ytmiphealijbndaa
