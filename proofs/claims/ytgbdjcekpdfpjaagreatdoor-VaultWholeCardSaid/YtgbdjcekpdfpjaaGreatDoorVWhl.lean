/- Wherever the power goes within a Save: the files that are left have the state that was there, or the new one. -/
import Derived.Test.YtgbdjcekpdfpjaaGreatDoorVg
namespace Go.Proofs.YtgbdjcekpdfpjaaGreatDoor
set_option linter.unusedVariables false
set_option linter.unusedSimpArgs false
open Go.RowKit

/-- Acts on the new file alone. -/
def NewOnly (ds : List Deed) : Prop := ∀ d ∈ ds, ∃ a b, d = .put freshN a b
theorem run_off {d : Deed} (h : ∃ a b, d = .put freshN a b) (F : Fl) (t : Nat) {x : List UInt8} (hx : x ≠ freshN) : get (d.run F t) x = get F x := by
  obtain ⟨a, b, rfl⟩ := h
  show get (put F freshN _) x = _
  rw [get_put, if_neg fun e => hx e.symm]
theorem runs_off : ∀ {ds : List Deed} (F : Fl), NewOnly ds → ∀ {x : List UInt8}, x ≠ freshN → get (runs F ds) x = get F x
  | [], F, _, x, _ => rfl
  | d :: r, F, h, x, hx => by
    show get (runs (d.run F 0) r) x = _
    rw [runs_off _ (fun e he => h e (List.mem_cons_of_mem _ he)) hx, run_off (h d (List.mem_cons_self ..)) _ _ hx]
theorem settle_off {ds : List Deed} (F : Fl) (h : NewOnly ds) (K T : Nat) {x : List UInt8} (hx : x ≠ freshN) : get (settleF F ds K T) x = get F x := by
  unfold settleF
  split
  · rfl
  · split
    · rename_i d hd
      rw [run_off (h d (List.mem_of_getElem? hd)) _ _ hx, runs_off _ (fun e he => h e (List.mem_of_mem_take he)) hx]
    · rfl
theorem settle_none (F : Fl) (K T : Nat) : settleF F [] K T = F := by
  unfold settleF
  split
  · rfl
  · simp

/-- The files have the old state, and at most a new file beside. -/
def HasOld (S : Sn) (F : Fl) : Prop := ∀ x, x ≠ freshN → get F x = get (filesOf S) x
/-- The files have the new state, and at most the old one's beside. -/
def HasNew (S k : Sn) (F : Fl) : Prop := get F k.name = some k.file ∧ ∀ x, get F x ≠ none → x = k.name ∨ (0 < S.ix ∧ x = S.name)

theorem write_arm {st : Dk} (hd : st.down = false) (hr : Rises st.last) {k P b : List UInt8} (hk : okN k = true) (hg : (get st.seen k = none ∧ P = []) ∨ get st.seen k = some P) (hfew : st.seen.length < 4096) (hroom : st.used + b.length ≤ st.room) :
    st.write k P.length b = st.perf (.put k P.length b) ∧ (st.act (.put k P.length b)).seen = put st.seen k (P ++ b) := by
  have hs : (st.act (.put k P.length b)).seen = put st.seen k (P ++ b) := by
    rw [act_seen]
    show put st.seen k (over ((get st.seen k).getD []) P.length (b.take (b.length - 0))) = _
    have e : (get st.seen k).getD [] = P := by
      rcases hg with ⟨h1, rfl⟩ | h1
      · rw [h1]; rfl
      · rw [h1]; rfl
    rw [e, Nat.sub_zero, List.take_length, over_end]
  have hrd : rdy st.down k = 0 := by unfold rdy; rw [hd]; simp [hk]
  refine ⟨?_, hs⟩
  unfold Dk.write
  rw [if_neg (by rw [hrd]; omega)]
  rcases hg with ⟨h1, rfl⟩ | h1
  · rw [h1]
    dsimp only
    rw [if_neg (by simp), if_neg (by omega), if_neg (by omega)]
    rfl
  · rw [h1]
    dsimp only
    rw [if_neg (by omega), if_neg (by omega)]
    rfl

/-- Records are written until the power goes. -/
theorem writes_arm : ∀ (l : List (List UInt8)) {st : Dk} {P : List UInt8}, st.down = false → Rises st.last → NewOnly st.acts → ((get st.seen freshN = none ∧ P = []) ∨ get st.seen freshN = some P) → st.seen.length < 4096 → (get st.seen freshN = none → st.seen.length < 4095) → st.used + l.flatten.length ≤ st.room →
    (∃ y, writesL l P.length st = (0, y) ∧ y.down = false ∧ y.last = st.last ∧ y.room = st.room ∧ NewOnly y.acts ∧ (l ≠ [] → y.seen = put st.seen freshN (P ++ l.flatten))) ∨
    ∃ y, writesL l P.length st = (22, y) ∧ y.down = true ∧ y.acts = [] ∧ ∀ x, x ≠ freshN → get y.last x = get st.last x
  | [], st, P, h, _, ha, _, _, _, _ => .inl ⟨st, rfl, h, rfl, rfl, ha, fun h => absurd rfl h⟩
  | b :: r, st, P, h, hr, ha, hg, hf, hf', hroom => by
    simp only [List.flatten_cons, List.length_append] at hroom
    obtain ⟨h1, h2⟩ := write_arm (b := b) h hr okN_fresh hg hf (by omega)
    have hna : NewOnly (st.acts ++ [.put freshN P.length b]) := fun d hd => by
      rcases List.mem_append.1 hd with hd | hd
      · exact ha d hd
      · exact ⟨_, _, List.mem_singleton.1 hd⟩
    by_cases hfn : st.fn = 1
    · refine .inr ⟨(st.act (.put freshN P.length b)).fall st.keep st.tear, ?_, rfl, rfl, fun x hx => settle_off _ hna _ _ hx⟩
      unfold writesL
      rw [h1]
      unfold Dk.perf
      rw [if_pos hfn]
      rfl
    obtain ⟨st2, hst2⟩ : ∃ s, st.act (.put freshN P.length b) = s := ⟨_, rfl⟩
    have hp : st.perf (.put freshN P.length b) = (0, st2) := by unfold Dk.perf; rw [if_neg hfn, hst2]
    rw [hst2] at h2
    rw [hp] at h1
    have hu2 : st2.used = st.used + b.length := by rw [← hst2, act_used]; rfl
    have hg2 : get st2.seen freshN = some (P ++ b) := by rw [h2, get_put, if_pos rfl]
    have hrs : Rises st.seen := runs_rises hr st.acts
    have hl2 : st2.seen.length < 4096 := by
      rw [h2, length_put hrs]
      rcases hg with ⟨e, _⟩ | e
      · rw [e]; have := hf' e; simp; omega
      · rw [e]; simpa using hf
    have hr2 : st2.room = st.room := by rw [← hst2]; rfl
    have hl : st2.last = st.last := by rw [← hst2]; rfl
    have e0 : writesL (b :: r) P.length st = writesL r (P ++ b).length st2 := by
      conv => lhs; unfold writesL
      rw [h1, if_pos rfl]
      dsimp only
      rw [← List.length_append]
    rw [e0]
    rcases writes_arm r (st := st2) (P := P ++ b) (by rw [← hst2]; exact h) (by rw [hl]; exact hr) (by rw [← hst2]; exact hna) (.inr hg2) hl2 (fun e => by rw [hg2] at e; cases e) (by rw [hu2, hr2]; omega) with ⟨y, k1, k2, k3, k4, k5, k6⟩ | ⟨y, k1, k2, k3, k4⟩
    · refine .inl ⟨y, k1, k2, by rw [k3, hl], by rw [k4, hr2], k5, fun _ => ?_⟩
      by_cases hr : r = []
      · subst hr
        have : y = st2 := by simp [writesL] at k1; exact k1.symm
        rw [this, h2]
        simp
      · rw [k6 hr, h2, put_put hrs]
        simp
    · exact .inr ⟨y, k1, k2, k3, fun x hx => by rw [k4 x hx, hl]⟩

theorem sync_arm {st : Dk} (h : st.down = false) : st.sync = (if st.fn = 1 then (22, st.fall st.keep st.tear) else (0, { st with fn := st.fn - 1, last := st.seen, acts := [] })) := by
  unfold Dk.sync
  rw [if_neg (by rw [h]; simp)]
theorem seen_clean (st : Dk) (n : Nat) (F : Fl) : ({ st with fn := n, last := F, acts := [] } : Dk).seen = F := rfl
theorem settle_one (F : Fl) (d : Deed) (hs : d.size = 0) (K T : Nat) (hK : K ≤ 1) : settleF F [d] K T = F ∨ settleF F [d] K T = d.run F 0 := by
  unfold settleF
  by_cases h : K = 0
  · rw [if_pos h]; exact .inl rfl
  · have : K = 1 := by omega
    subst this
    right
    simp [hs]
    rfl

section
variable {S k : Sn} (hg : S = sn0 ∨ S.chk = 0) (hk : k.chk = 0) (hx : S.ix < k.ix)
include hg hk hx
theorem sk_ne (h0 : 0 < S.ix) : ¬ k.name = S.name := fun e => by
  have hc : S.chk = 0 := by
    rcases hg with rfl | hc
    · simp [sn0] at h0
    · exact hc
  obtain ⟨ek1, _, _⟩ := name_chk hk
  obtain ⟨es1, _, _⟩ := name_chk hc
  have h1 := chk_ix hk
  have h2 := chk_ix hc
  rw [ek1, es1] at e
  have := nameL_inj (by omega) (by omega) h1.2 h2.2 e
  omega
omit hg hk hx in
theorem new_put : HasNew S k (put (filesOf S) k.name k.file) := by
  refine ⟨by rw [get_put, if_pos rfl], fun x h => ?_⟩
  rw [get_put] at h
  by_cases e : k.name = x
  · exact .inl e.symm
  · rw [if_neg e] at h
    unfold filesOf at h
    by_cases h0 : 0 < S.ix
    · rw [if_pos h0] at h
      refine .inr ⟨h0, ?_⟩
      by_cases e2 : S.name = x
      · exact e2.symm
      · simp [get, e2] at h
    · rw [if_neg h0] at h
      exact absurd rfl h
theorem new_drop (h0 : 0 < S.ix) {F : Fl} (h : HasNew S k F) : HasNew S k (del F S.name) := by
  refine ⟨by rw [get_del, if_neg fun e => sk_ne hg hk hx h0 e.symm]; exact h.1, fun x hn => ?_⟩
  rw [get_del] at hn
  by_cases e : S.name = x
  · rw [if_pos e] at hn; exact absurd rfl hn
  · rw [if_neg e] at hn; exact h.2 x hn

/-- A Save on a disk whose power may go. -/
theorem save_arm {st : Dk} (hd : st.down = false) (hl : st.last = filesOf S) (ha : st.acts = []) (hrs : Rises st.last) (hroom : st.used + k.file.length ≤ st.room) :
    (∃ y, saveL S st k = (0, k, y) ∧ y.down = false ∧ ∀ K T, K ≤ y.acts.length → HasNew S k (settleF y.last y.acts K T)) ∨
    ∃ s' y, saveL S st k = (22, s', y) ∧ y.down = true ∧ y.acts = [] ∧ (HasOld S y.last ∨ HasNew S k y.last) := by
  have hkx := chk_ix hk
  obtain ⟨ek1, ek2, ek3⟩ := name_chk hk
  have hseen : st.seen = filesOf S := by unfold Dk.seen; rw [ha, hl]; rfl
  have hno : get st.seen freshN = none := by
    rw [hseen]
    unfold filesOf
    split
    · rename_i hs0
      have : S.name ≠ freshN := by unfold Sn.name; rw [if_pos hs0]; exact nameL_ne (by omega)
      simp [get, this]
    · rfl
  have hfew : st.seen.length < 4095 := by rw [hseen]; unfold filesOf; split <;> simp
  have hsv : saveL S st k = if (st.keepS k).1 ≠ 0 then ((st.keepS k).1, S, (st.keepS k).2) else
      if 0 < S.ix then (((st.keepS k).2.drop S.name).1, k, ((st.keepS k).2.drop S.name).2) else (0, k, (st.keepS k).2) := by
    unfold saveL
    rw [if_neg (by omega), if_neg (by omega)]
  have stop : ∀ y, st.keepS k = (22, y) → y.down = true → y.acts = [] → (HasOld S y.last ∨ HasNew S k y.last) → ∃ s' y, saveL S st k = (22, s', y) ∧ y.down = true ∧ y.acts = [] ∧ (HasOld S y.last ∨ HasNew S k y.last) := fun y h1 h2 h3 h4 => by
    refine ⟨S, y, ?_, h2, h3, h4⟩
    rw [hsv, h1]
    rfl
  rcases writes_arm k.recs (st := st) (P := []) hd hrs (by rw [ha]; intro d hd; cases hd) (.inl ⟨hno, rfl⟩) (by omega) (fun _ => hfew) hroom with ⟨y1, h1, d1, l1, r1, a1, s1⟩ | ⟨y1, h1, d1, a1, o1⟩
  · have s1 := s1 (recs_ne k)
    rw [List.nil_append, hseen] at s1
    have e1 : st.keep2 k = y1.sync := by
      unfold Dk.keep2 Dk.keep1
      rw [show writesL k.recs 0 st = (0, y1) from h1, seqE_go rfl]
    rw [sync_arm d1] at e1
    by_cases f1 : y1.fn = 1
    · rw [if_pos f1] at e1
      refine .inr (stop (y1.fall y1.keep y1.tear) ?_ rfl rfl (.inl fun x hx => ?_))
      · rw [keepS_eq, seqE_stop (by unfold Dk.keep3; rw [e1, seqE_stop (by simp)]; simp)]
        unfold Dk.keep3
        rw [e1, seqE_stop (by simp)]
      · show get (settleF y1.last y1.acts _ _) x = _
        rw [settle_off _ a1 _ _ hx, l1, hl]
    rw [if_neg f1] at e1
    obtain ⟨y2, hy2⟩ : ∃ y, ({ y1 with fn := y1.fn - 1, last := y1.seen, acts := [] } : Dk) = y := ⟨_, rfl⟩
    rw [hy2] at e1
    have d2 : y2.down = false := by rw [← hy2]; exact d1
    have l2 : y2.last = put (filesOf S) freshN k.file := by rw [← hy2]; exact s1
    have a2 : y2.acts = [] := by rw [← hy2]
    have s2 : y2.seen = put (filesOf S) freshN k.file := by unfold Dk.seen; rw [a2, l2]; rfl
    have hFr : Rises (filesOf S) := hl ▸ hrs
    have hgn : get (filesOf S) freshN = none := by rw [← hseen]; exact hno
    have hold : HasOld S y2.last := fun x hx => by rw [l2, get_put, if_neg fun e => hx e.symm]
    have hrun : (Deed.move freshN k.name).run y2.last 0 = put (filesOf S) k.name k.file := by
      show put (del y2.last freshN) k.name ((get y2.last freshN).getD []) = _
      rw [l2, get_put, if_pos rfl, del_put hFr hgn]
      rfl
    have hnew := new_put (S := S) (k := k)
    have hm : ∀ K T, K ≤ 1 → HasOld S (settleF y2.last [.move freshN k.name] K T) ∨ HasNew S k (settleF y2.last [.move freshN k.name] K T) := fun K T hK => by
      rcases settle_one y2.last (.move freshN k.name) rfl K T hK with e | e
      · rw [e]; exact .inl hold
      · rw [e, hrun]; exact .inr hnew
    have e3 : st.keep3 k = y2.perf (.move freshN k.name) := by
      unfold Dk.keep3
      rw [e1, seqE_go rfl]
      show y2.move freshN k.name = _
      unfold Dk.move
      have hrd : rdy y2.down freshN = 0 := by unfold rdy; rw [d2]; simp [okN_fresh]
      rw [if_neg (by rw [hrd]; omega), s2, get_put, if_pos rfl]
      dsimp only
      rw [if_neg (by rw [ek2]; simp)]
    unfold Dk.perf at e3
    by_cases f2 : y2.fn = 1
    · rw [if_pos f2] at e3
      refine .inr (stop ((y2.act (.move freshN k.name)).fall y2.keep y2.tear) ?_ rfl rfl ?_)
      · rw [keepS_eq, e3, seqE_stop (by simp)]
      · have e : ((y2.act (.move freshN k.name)).fall y2.keep y2.tear).last = settleF y2.last (y2.acts ++ [.move freshN k.name]) (min (max y2.keep 0).toNat (y2.acts ++ [Deed.move freshN k.name]).length) (max y2.tear 0).toNat := rfl
        rw [e, a2]
        exact hm _ _ (by simp; omega)
    rw [if_neg f2] at e3
    obtain ⟨y3, hy3⟩ : ∃ y, y2.act (.move freshN k.name) = y := ⟨_, rfl⟩
    rw [hy3] at e3
    have d3 : y3.down = false := by rw [← hy3]; exact d2
    have l3 : y3.last = y2.last := by rw [← hy3]; rfl
    have a3 : y3.acts = [.move freshN k.name] := by rw [← hy3]; show y2.acts ++ _ = _; rw [a2]; rfl
    have s3 : y3.seen = put (filesOf S) k.name k.file := by
      unfold Dk.seen
      rw [a3, l3]
      exact hrun
    have e4 : st.keepS k = y3.sync := by rw [keepS_eq, e3, seqE_go rfl]
    rw [sync_arm d3] at e4
    by_cases f3 : y3.fn = 1
    · rw [if_pos f3] at e4
      refine .inr (stop _ e4 rfl rfl ?_)
      show HasOld S (settleF y3.last y3.acts (min (max y3.keep 0).toNat y3.acts.length) _) ∨ HasNew S k (settleF y3.last y3.acts (min (max y3.keep 0).toNat y3.acts.length) _)
      rw [a3, l3]
      exact hm _ _ (by simp; omega)
    rw [if_neg f3] at e4
    obtain ⟨y4, hy4⟩ : ∃ y, ({ y3 with fn := y3.fn - 1, last := y3.seen, acts := [] } : Dk) = y := ⟨_, rfl⟩
    rw [hy4] at e4
    have d4 : y4.down = false := by rw [← hy4]; exact d3
    have l4 : y4.last = put (filesOf S) k.name k.file := by rw [← hy4]; exact s3
    have a4 : y4.acts = [] := by rw [← hy4]
    have s4 : y4.seen = put (filesOf S) k.name k.file := by unfold Dk.seen; rw [a4, l4]; rfl
    rw [hsv, e4]
    dsimp only
    rw [if_neg (by simp)]
    by_cases h0 : 0 < S.ix
    · rw [if_pos h0]
      have hc : S.chk = 0 := by
        rcases hg with rfl | hc
        · simp [sn0] at h0
        · exact hc
      have hgs : get y4.seen S.name = some S.file := by
        rw [s4, get_put, if_neg (sk_ne hg hk hx h0)]
        unfold filesOf
        rw [if_pos h0]
        simp [get]
      have e5 : y4.drop S.name = y4.perf (.drop S.name) := by
        unfold Dk.drop
        have hrd : rdy y4.down S.name = 0 := by unfold rdy; rw [d4]; simp [(name_chk hc).2.1]
        rw [if_neg (by rw [hrd]; omega), hgs]
      have hdr : ∀ K T, K ≤ 1 → HasNew S k (settleF y4.last [.drop S.name] K T) := fun K T hK => by
        rcases settle_one y4.last (.drop S.name) rfl K T hK with e | e
        · rw [e, l4]; exact hnew
        · rw [e, l4]; exact new_drop hg hk hx h0 hnew
      unfold Dk.perf at e5
      by_cases f4 : y4.fn = 1
      · rw [if_pos f4] at e5
        rw [e5]
        refine .inr ⟨k, _, rfl, rfl, rfl, .inr ?_⟩
        show HasNew S k (settleF y4.last (y4.acts ++ [.drop S.name]) (min (max y4.keep 0).toNat (y4.acts ++ [Deed.drop S.name]).length) _)
        rw [a4]
        exact hdr _ _ (by simp; omega)
      · rw [if_neg f4] at e5
        rw [e5]
        refine .inl ⟨_, rfl, d4, fun K T hK => ?_⟩
        have e : (y4.act (.drop S.name)).acts = [.drop S.name] := by show y4.acts ++ _ = _; rw [a4]; rfl
        have hK' : K ≤ 1 := by rw [e] at hK; simpa using hK
        show HasNew S k (settleF y4.last (y4.act (.drop S.name)).acts K T)
        rw [e]
        exact hdr _ _ hK'
    · rw [if_neg h0]
      refine .inl ⟨_, rfl, d4, fun K T hK => ?_⟩
      rw [a4, settle_none, l4]
      exact hnew
  · refine .inr (stop y1 ?_ d1 a1 (.inl fun x hx => by rw [o1 x hx, hl]))
    have e1 : st.keep1 k = (22, y1) := h1
    have e2 : st.keep2 k = (22, y1) := by unfold Dk.keep2; rw [e1, seqE_stop (by simp)]
    have e3 : st.keep3 k = (22, y1) := by unfold Dk.keep3; rw [e2, seqE_stop (by simp)]
    rw [keepS_eq, e3, seqE_stop (by simp)]
end

theorem findN_hd {st : Dk} (hd : st.down = false) {s : Sn} (hc : s.chk = 0) (hg : get st.seen s.name = some s.file) (r : List (List UInt8)) : findN st (s.name :: r) = some s :=
  findN_take (by rw [read_get (b := s.file) hd (name_chk hc).2.1 hg]; exact stateL_file hc)
theorem names_seen {st : Dk} (hd : st.down = false) : st.names = st.seen.map (·.1) := by unfold Dk.names; rw [if_neg (by rw [hd]; simp)]
theorem rises_two {a b : List UInt8} (x y : List UInt8) (h : a < b) : Rises [(a, x), (b, y)] := List.Pairwise.cons (fun q hq => by simp at hq; rw [hq]; exact h) (List.Pairwise.cons (by simp) List.Pairwise.nil)
theorem rises_one (a x : List UInt8) : Rises [(a, x)] := List.Pairwise.cons (by simp) List.Pairwise.nil
/-- What is found where the old state is there. -/
theorem found_old {st : Dk} {S : Sn} (hd : st.down = false) (hr : Rises st.seen) (h : HasOld S st.seen) (hg : S = sn0 ∨ S.chk = 0) : st.found = S := by
  have hfv := freshN_isV
  rcases hg with rfl | hc
  · have hF : filesOf sn0 = [] := rfl
    cases hf : get st.seen freshN with
    | none =>
      have e : st.seen = [] := hr.ext List.Pairwise.nil fun x => by
        by_cases hx : x = freshN
        · rw [hx, hf]; rfl
        · rw [h x hx, hF]
      unfold Dk.found
      rw [names_seen hd, e]
      rfl
    | some b =>
      have e : st.seen = [(freshN, b)] := hr.ext (rises_one _ _) fun x => by
        by_cases hx : x = freshN
        · rw [hx, hf]; simp [get]
        · rw [h x hx, hF]; simp [get, Ne.symm hx]
      unfold Dk.found
      rw [names_seen hd, e]
      simp only [List.map_cons, List.map_nil, List.filter_cons, hfv, if_true, List.filter_nil, List.reverse_cons, List.reverse_nil, List.nil_append]
      rw [findN_skip (fresh_none _)]
      rfl
  · have hx := chk_ix hc
    obtain ⟨e1, e2, e3⟩ := name_chk hc
    have hF : filesOf S = [(S.name, S.file)] := by unfold filesOf; rw [if_pos (by omega)]
    have hlt : S.name < freshN := by rw [e1]; exact nameL_fresh (by omega) hx.2
    have hne : S.name ≠ freshN := fun e => nm_irrefl _ (by rw [e] at hlt; exact hlt)
    have hgs : get st.seen S.name = some S.file := by rw [h _ hne, hF]; simp [get]
    cases hf : get st.seen freshN with
    | none =>
      have e : st.seen = [(S.name, S.file)] := hr.ext (rises_one _ _) fun x => by
        by_cases hx : x = freshN
        · rw [hx, hf]; simp [get, hne]
        · rw [h x hx, hF]
      have en : (st.names.filter isV).reverse = [S.name] := by rw [names_seen hd, e]; simp [e3]
      unfold Dk.found
      rw [en, findN_hd hd hc hgs]
      rfl
    | some b =>
      have e : st.seen = [(S.name, S.file), (freshN, b)] := hr.ext (rises_two _ _ hlt) fun x => by
        by_cases hx : x = freshN
        · rw [hx, hf]; simp [get, hne]
        · rw [h x hx, hF]; simp [get, Ne.symm hx]
      have en : (st.names.filter isV).reverse = [freshN, S.name] := by rw [names_seen hd, e]; simp [e3, hfv]
      unfold Dk.found
      rw [en, findN_skip (fresh_none _), findN_hd hd hc hgs]
      rfl
/-- What is found where the new state is there. -/
theorem found_new {st : Dk} {S k : Sn} (hd : st.down = false) (hr : Rises st.seen) (h : HasNew S k st.seen) (hg : S = sn0 ∨ S.chk = 0) (hk : k.chk = 0) (hx : S.ix < k.ix) : st.found = k := by
  have hkx := chk_ix hk
  obtain ⟨e1, e2, e3⟩ := name_chk hk
  obtain ⟨hgk, hall⟩ := h
  by_cases hs : 0 < S.ix ∧ get st.seen S.name ≠ none
  · obtain ⟨h0, hs⟩ := hs
    have hc : S.chk = 0 := by
      rcases hg with rfl | hc
      · simp [sn0] at h0
      · exact hc
    have hsx := chk_ix hc
    obtain ⟨q1, q2, q3⟩ := name_chk hc
    have hlt : S.name < k.name := by rw [q1, e1]; exact nameL_lt (by omega) hx hkx.2
    have hne := sk_ne (.inr hc) hk hx h0
    cases hb : get st.seen S.name with
    | none => exact absurd hb hs
    | some b =>
      have e : st.seen = [(S.name, b), (k.name, k.file)] := hr.ext (rises_two _ _ hlt) fun x => by
        by_cases hx1 : x = k.name
        · rw [hx1, hgk]; simp [get, Ne.symm hne]
        · by_cases hx2 : x = S.name
          · rw [hx2, hb]; simp [get]
          · have : get st.seen x = none := by
              cases hn : get st.seen x with
              | none => rfl
              | some v =>
                rcases hall x (by rw [hn]; simp) with h | h
                · exact absurd h hx1
                · exact absurd h.2 hx2
            rw [this]; simp [get, Ne.symm hx1, Ne.symm hx2]
      have en : (st.names.filter isV).reverse = [k.name, S.name] := by rw [names_seen hd, e]; simp [e3, q3]
      unfold Dk.found
      rw [en, findN_hd hd hk hgk]
      rfl
  · have e : st.seen = [(k.name, k.file)] := hr.ext (rises_one _ _) fun x => by
      by_cases hx1 : x = k.name
      · rw [hx1, hgk]; simp [get]
      · have : get st.seen x = none := by
          cases hn : get st.seen x with
          | none => rfl
          | some v =>
            rcases hall x (by rw [hn]; simp) with h | h
            · exact absurd h hx1
            · exact absurd ⟨h.1, by rw [← h.2, hn]; simp⟩ hs
        rw [this]; simp [get, Ne.symm hx1]
    have en : (st.names.filter isV).reverse = [k.name] := by rw [names_seen hd, e]; simp [e3]
    unfold Dk.found
    rw [en, findN_hd hd hk hgk]
    rfl

/-- The fuse is taken out, and the power is there, goes, and is there again. -/
def Dk.rise (y : Dk) (K T : Int) : Dk := ((y.arm 0 0 0).2.start.crash K T).2.start
theorem rise_at (y : Dk) (K T : Int) : (y.rise K T).last = settleF y.last y.acts (min (max K 0).toNat y.acts.length) (max T 0).toNat ∧ (y.rise K T).acts = [] ∧ (y.rise K T).down = false ∧ (y.rise K T).fn = 0 := by
  have e : (y.rise K T).last = settleF (y.arm 0 0 0).2.last (y.arm 0 0 0).2.acts (min (max K 0).toNat (y.arm 0 0 0).2.acts.length) (max T 0).toNat ∧ (y.rise K T).acts = [] ∧ (y.rise K T).down = false ∧ (y.rise K T).fn = 0 := by
    unfold Dk.rise Dk.crash
    rw [if_neg (by simp [Dk.start])]
    exact ⟨rfl, rfl, rfl, rfl⟩
  have e1 : (y.arm 0 0 0).2.last = y.last := by unfold Dk.arm; split <;> rfl
  have e2 : (y.arm 0 0 0).2.acts = y.acts := by unfold Dk.arm; split <;> rfl
  rw [e1, e2] at e
  exact e
theorem Dk.Fine.rise {y : Dk} {n U : Nat} (h : y.Fine n U) (K T : Int) : (y.rise K T).Fine n U := (((h.arm (by omega) (by omega) (by omega) (by omega) (by omega)).start).crash K T).start

/-- What is there behind a Save on a disk whose power may go. -/
theorem whole_found {S k : Sn} {st : Dk} (hg : S = sn0 ∨ S.chk = 0) (hd : st.down = false) (hl : st.last = filesOf S) (ha : st.acts = []) {n U : Nat} (hf : st.Fine n U) (hn : n + k.recs.length + 3 < 1000000) (hroom : k.chk = 0 → st.used + k.file.length ≤ st.room) {V : Nat} (hV : U ≤ V) (hV2 : k.chk = 0 → U + k.file.length ≤ V) (K T : Int) :
    ∃ e s' y, saveL S st k = (e, s', y) ∧ (y.rise K T).Quiet ∧ (y.rise K T).Fine (n + k.recs.length + 3) V ∧
      ((e = 0 ∧ k.chk = 0 ∧ (y.rise K T).found = k) ∨ (e = 22 ∧ ((y.rise K T).found = S ∨ ((y.rise K T).found = k ∧ k.chk = 0))) ∨ (e ≠ 0 ∧ e ≠ 22 ∧ (y.rise K T).found = S)) := by
  have hfs := saveL_fine hf S k hn
  obtain ⟨e, s', y, hs⟩ : ∃ e s' y, saveL S st k = (e, s', y) := ⟨_, _, _, rfl⟩
  rw [hs] at hfs
  have hfr : (y.rise K T).Fine (n + k.recs.length + 3) V := by
    by_cases hk : k.chk = 0
    · exact Dk.Fine.rise ((show y.Fine (n + k.recs.length + 3) (U + k.file.length) from hfs).mono (Nat.le_refl _) (hV2 hk)) K T
    · rw [save_bad hk] at hs
      injection hs with h1 h2
      injection h2 with h2 h3
      exact Dk.Fine.rise ((h3 ▸ hf : y.Fine n U).mono (by omega) hV) K T
  obtain ⟨r1, r2, r3, r4⟩ := rise_at y K T
  have hsn : (y.rise K T).seen = (y.rise K T).last := by unfold Dk.seen; rw [r2]; rfl
  have hrr := hfr.ok.rises
  have hrs : Rises (y.rise K T).seen := by rw [hsn]; exact hrr
  refine ⟨e, s', y, hs, ⟨r3, r4, hrr⟩, hfr, ?_⟩
  have old : y = st → (y.rise K T).found = S := fun h => by
    refine found_old r3 hrs ?_ hg
    rw [hsn, r1, h, ha, settle_none, hl]
    exact fun x _ => rfl
  by_cases hk : k.chk = 0
  · by_cases hx : k.ix ≤ S.ix
    · rw [save_old hk hx] at hs
      injection hs with h1 h2
      injection h2 with h2 h3
      exact .inr (.inr ⟨by omega, by omega, old h3.symm⟩)
    · have hx' : S.ix < k.ix := by omega
      rcases save_arm hg hk hx' hd hl ha hf.ok.rises (hroom hk) with ⟨z, h1, h2, h3⟩ | ⟨t, z, h1, h2, h3, h4⟩
      · rw [hs] at h1
        injection h1 with h4 h5
        injection h5 with h5 h6
        subst h6
        refine .inl ⟨h4, hk, found_new (S := S) r3 hrs ?_ hg hk hx'⟩
        rw [hsn, r1]
        exact h3 _ _ (by omega)
      · rw [hs] at h1
        injection h1 with h5 h6
        injection h6 with h6 h7
        subst h7
        refine .inr (.inl ⟨h5, ?_⟩)
        have e1 : (y.rise K T).seen = y.last := by rw [hsn, r1, h3, settle_none]
        rcases h4 with h4 | h4
        · exact .inl (found_old r3 hrs (by rw [e1]; exact h4) hg)
        · exact .inr ⟨found_new (S := S) r3 hrs (by rw [e1]; exact h4) hg hk hx', hk⟩
  · rw [save_bad hk] at hs
    injection hs with h1 h2
    injection h2 with h2 h3
    refine .inr (.inr ⟨by omega, ?_, old h3.symm⟩)
    have : k.chk = 0 ∨ k.chk = 4 ∨ k.chk = 60 := by
      unfold Sn.chk
      split
      · split
        · exact .inr (.inl rfl)
        · exact .inl rfl
      · exact .inr (.inr rfl)
    omega
end Go.Proofs.YtgbdjcekpdfpjaaGreatDoor
