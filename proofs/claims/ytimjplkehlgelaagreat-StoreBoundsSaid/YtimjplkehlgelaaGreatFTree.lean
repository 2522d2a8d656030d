/- A forest's branches, plainly: each top with all that stands beneath it. -/
import Derived.Test.YtimjplkehlgelaaGreatFo2
import Derived.Test.YtimjplkehlgelaaGreatSpSort
import Derived.Test.YtimjplkehlgelaaGreatFo1
namespace Go.Proofs.YtimjplkehlgelaaGreat
set_option linter.unusedVariables false
set_option linter.unusedSimpArgs false
open Go.RowKit

/-- A branch. -/
structure Br where
  d : Int
  o : Bool
  s : Sp
deriving DecidableEq
instance : Inhabited Br := ⟨⟨0, false, default⟩⟩

/-- Those whose parent is k. -/
def kids (S : List Sp) (k : Int) : List Sp := S.filter fun x => x.p == k
theorem mem_kids {S : List Sp} {k : Int} {x : Sp} : x ∈ kids S k ↔ x ∈ S ∧ x.p = k := by
  unfold kids
  rw [List.mem_filter, beq_iff_eq]
/-- A span and what stands beneath it, at most n deep. -/
def unf (S : List Sp) : Nat → Int → Bool → Sp → List Br
  | 0, d, o, t => [⟨d, o, t⟩]
  | n + 1, d, o, t => ⟨d, o, t⟩ :: (kids S t.i).flatMap (unf S n (d + 1) false)
/-- Beneath a span there is nothing deeper than n. -/
def Deep (S : List Sp) : Nat → Sp → Prop
  | 0, t => kids S t.i = []
  | n + 1, t => ∀ c ∈ kids S t.i, Deep S n c
theorem Deep.mono {S : List Sp} : ∀ {n m : Nat} {t : Sp}, n ≤ m → Deep S n t → Deep S m t
  | 0, 0, _, _, h => h
  | 0, m + 1, t, _, h => by
    intro c hc
    rw [show kids S t.i = [] from h] at hc
    simp at hc
  | n + 1, 0, _, hn, _ => by omega
  | n + 1, m + 1, t, hn, h => fun c hc => Deep.mono (by omega) (h c hc)
theorem unf_more {S : List Sp} : ∀ {n m : Nat} {d : Int} {o : Bool} {t : Sp}, Deep S n t → n ≤ m → unf S n d o t = unf S m d o t
  | 0, 0, _, _, _, _, _ => rfl
  | 0, m + 1, d, o, t, h, _ => by
    unfold unf
    rw [show kids S t.i = [] from h]
    rfl
  | n + 1, 0, _, _, _, _, hn => by omega
  | n + 1, m + 1, d, o, t, h, hn => by
    unfold unf
    rw [List.flatMap_def, List.flatMap_def]
    congr 2
    apply List.map_congr_left
    intro c hc
    exact unf_more (h c hc) (by omega)
theorem unf_head {S : List Sp} (n : Nat) (d : Int) (o : Bool) (t : Sp) : ∃ r, unf S n d o t = ⟨d, o, t⟩ :: r := by
  cases n with
  | zero => exact ⟨[], rfl⟩
  | succ n => exact ⟨_, rfl⟩

/-- Spans of which no two have one ID, none of an ID below 1, none above itself. -/
structure Tidy (S : List Sp) (r : Int → Nat) : Prop where
  ids : S.Pairwise fun x y => x.i ≠ y.i
  rises : Ranks S r
  pos : ∀ x ∈ S, 1 ≤ x.i
theorem Tidy.par {S : List Sp} {r : Int → Nat} (h : Tidy S r) {c t : Sp} (ht : t ∈ S) (hc : c.p = t.i) : fnd S c.p = some t := by
  rw [hc]
  exact fnd_of h.ids ht
theorem Tidy.up {S : List Sp} {r : Int → Nat} (h : Tidy S r) {c t : Sp} (ht : t ∈ S) (hcS : c ∈ S) (hc : c.p = t.i) : r t.i < r c.i := h.rises c hcS t (h.par ht hc)
theorem Tidy.nodup {S : List Sp} {r : Int → Nat} (h : Tidy S r) : S.Nodup := h.ids.imp fun hne e => hne (by rw [e])
theorem deep_of {S : List Sp} {r : Int → Nat} (h : Tidy S r) : ∀ (n : Nat) (t : Sp), (S.filter fun x => decide (r t.i < r x.i)).length ≤ n → t ∈ S → Deep S n t := by
  intro n
  induction n with
  | zero =>
    intro t hn ht
    show kids S t.i = []
    rw [List.eq_nil_iff_forall_not_mem]
    intro c hc
    obtain ⟨hcS, hcp⟩ := mem_kids.1 hc
    have hlt := h.up ht hcS hcp
    have : c ∈ S.filter fun x => decide (r t.i < r x.i) := List.mem_filter.2 ⟨hcS, decide_eq_true hlt⟩
    rw [List.eq_nil_of_length_eq_zero (Nat.le_zero.1 hn)] at this
    simp at this
  | succ n ih =>
    intro t hn ht c hc
    obtain ⟨hcS, hcp⟩ := mem_kids.1 hc
    have hlt := h.up ht hcS hcp
    refine ih c ?_ hcS
    have := filter_lt (p := fun x => decide (r c.i < r x.i)) (q := fun x => decide (r t.i < r x.i)) (fun x hx => by rw [decide_eq_true_eq] at *; omega) hcS (decide_eq_true hlt) (decide_eq_false (by omega))
    omega
theorem deep_all {S : List Sp} {r : Int → Nat} (h : Tidy S r) {t : Sp} (ht : t ∈ S) {n : Nat} (hn : S.length ≤ n) : Deep S n t :=
  deep_of h n t (Nat.le_trans (List.length_filter_le _ _) hn) ht

/-- Who stands so many steps above. -/
def anc (S : List Sp) : Nat → Sp → Option Sp
  | 0, x => some x
  | n + 1, x => (fnd S x.p).bind (anc S n)
theorem anc_add {S : List Sp} : ∀ {a b : Nat} {x c : Sp}, anc S a x = some c → anc S (a + b) x = anc S b c
  | 0, b, x, c, h => by
    injection h with h
    rw [h, Nat.zero_add]
  | a + 1, b, x, c, h => by
    rw [show a + 1 + b = (a + b) + 1 by omega]
    have h' : (fnd S x.p).bind (anc S a) = some c := h
    show (fnd S x.p).bind (anc S (a + b)) = _
    cases hf : fnd S x.p with
    | none => rw [hf] at h'; cases h'
    | some u =>
      rw [hf] at h'
      exact anc_add (a := a) h'
theorem anc_snoc {S : List Sp} {a : Nat} {x c t : Sp} (h : anc S a x = some c) (hc : fnd S c.p = some t) : anc S (a + 1) x = some t := by
  rw [anc_add h]
  show (fnd S c.p).bind (anc S 0) = some t
  rw [hc]
  rfl
theorem anc_mem {S : List Sp} : ∀ {n : Nat} {x c : Sp}, anc S n x = some c → x ∈ S → c ∈ S
  | 0, x, c, h, hx => by injection h with h; rw [← h]; exact hx
  | n + 1, x, c, h, hx => by
    unfold anc at h
    cases hf : fnd S x.p with
    | none => rw [hf] at h; cases h
    | some u => rw [hf] at h; exact anc_mem (n := n) h (fnd_mem hf).1
theorem anc_rank {S : List Sp} {r : Int → Nat} (hr : Tidy S r) : ∀ {n : Nat} {x c : Sp}, anc S n x = some c → x ∈ S → r c.i + n ≤ r x.i
  | 0, x, c, h, hx => by injection h with h; rw [h]; omega
  | n + 1, x, c, h, hx => by
    unfold anc at h
    cases hf : fnd S x.p with
    | none => rw [hf] at h; cases h
    | some u =>
      rw [hf] at h
      have h1 := anc_rank hr (n := n) h (fnd_mem hf).1
      have h2 := hr.rises x hx u hf
      omega

/-- What stands in an unfolded span. -/
theorem mem_unf {S : List Sp} {r : Int → Nat} (hr : Tidy S r) : ∀ {n : Nat} {d : Int} {o : Bool} {t : Sp} {y : Br}, t ∈ S → y ∈ unf S n d o t → y.s ∈ S ∧ ∃ k : Nat, anc S k y.s = some t ∧ y.d = d + k ∧ y.o = (o && k == 0)
  | 0, d, o, t, y, ht, hy => by
    unfold unf at hy
    rw [List.mem_singleton] at hy
    subst hy
    exact ⟨ht, 0, rfl, by simp, by simp⟩
  | n + 1, d, o, t, y, ht, hy => by
    unfold unf at hy
    rcases List.mem_cons.1 hy with rfl | hy
    · exact ⟨ht, 0, rfl, by simp, by simp⟩
    · obtain ⟨c, hc, hy⟩ := List.mem_flatMap.1 hy
      obtain ⟨hcS, hcp⟩ := mem_kids.1 hc
      obtain ⟨h1, k, h2, h3, h4⟩ := mem_unf hr hcS hy
      exact ⟨h1, k + 1, anc_snoc h2 (hr.par ht hcp), by rw [h3]; omega, by rw [h4]; simp⟩

theorem anc_par {S : List Sp} {r : Int → Nat} (hr : Tidy S r) {y c c' t : Sp} (hy : y ∈ S) (ht : t ∈ S) (hcp : c.p = t.i) (hcp' : c'.p = t.i) {k k' : Nat} (h : anc S k y = some c) (h' : anc S k' y = some c') (hk : k ≤ k') : c = c' := by
  obtain ⟨j, rfl⟩ := Nat.exists_eq_add_of_le hk
  rw [anc_add h] at h'
  cases j with
  | zero => injection h'
  | succ j =>
    exfalso
    unfold anc at h'
    rw [hr.par ht hcp] at h'
    have h1 := anc_rank hr (show anc S j t = some c' from h') ht
    have hc'S := anc_mem (show anc S j t = some c' from h') ht
    have h2 := hr.up ht hc'S hcp'
    omega
theorem unf_nodup {S : List Sp} {r : Int → Nat} (hr : Tidy S r) : ∀ {n : Nat} {d : Int} {o : Bool} {t : Sp}, t ∈ S → ((unf S n d o t).map Br.s).Nodup
  | 0, d, o, t, ht => by simp [unf]
  | n + 1, d, o, t, ht => by
    unfold unf
    rw [List.map_cons, List.nodup_cons, List.map_flatMap]
    constructor
    · intro hm
      obtain ⟨c, hc, hm⟩ := List.mem_flatMap.1 hm
      obtain ⟨y, hy, hys⟩ := List.mem_map.1 hm
      obtain ⟨hcS, hcp⟩ := mem_kids.1 hc
      obtain ⟨h1, k, h2, _⟩ := mem_unf hr hcS hy
      simp only at hys
      rw [hys] at h2
      have h3 := anc_rank hr h2 ht
      have h4 := hr.up ht hcS hcp
      omega
    · unfold List.Nodup
      rw [List.pairwise_flatMap]
      refine ⟨fun c hc => unf_nodup hr (mem_kids.1 hc).1, ?_⟩
      have hk : (kids S t.i).Nodup := List.Pairwise.filter _ hr.nodup
      refine List.Pairwise.imp_of_mem (fun {c c'} hc hc' hne => ?_) hk
      intro a ha b hb e
      subst e
      obtain ⟨y, hy, rfl⟩ := List.mem_map.1 ha
      obtain ⟨y', hy', hs⟩ := List.mem_map.1 hb
      obtain ⟨h1, k, h2, _⟩ := mem_unf hr (mem_kids.1 hc).1 hy
      obtain ⟨h1', k', h2', _⟩ := mem_unf hr (mem_kids.1 hc').1 hy'
      rw [hs] at h2'
      rcases Nat.le_total k k' with hk | hk
      · exact hne (anc_par hr h1 ht (mem_kids.1 hc).2 (mem_kids.1 hc').2 h2 h2' hk)
      · exact hne (anc_par hr h1 ht (mem_kids.1 hc').2 (mem_kids.1 hc).2 h2' h2 hk).symm
theorem unf_kids {S : List Sp} : ∀ {n : Nat} {d : Int} {o : Bool} {t x : Sp} {y : Br}, Deep S n t → y ∈ unf S n d o t → x ∈ S → x.p = y.s.i → ∃ z ∈ unf S n d o t, z.s = x
  | 0, d, o, t, x, y, hd, hy, hx, hp => by
    unfold unf at hy
    rw [List.mem_singleton] at hy
    subst hy
    have : x ∈ kids S t.i := mem_kids.2 ⟨hx, hp⟩
    rw [show kids S t.i = [] from hd] at this
    simp at this
  | n + 1, d, o, t, x, y, hd, hy, hx, hp => by
    unfold unf at hy ⊢
    rcases List.mem_cons.1 hy with rfl | hy
    · obtain ⟨r, hr⟩ := unf_head (S := S) n (d + 1) false x
      exact ⟨_, List.mem_cons_of_mem _ (List.mem_flatMap.2 ⟨x, mem_kids.2 ⟨hx, hp⟩, by rw [hr]; exact List.mem_cons_self ..⟩), rfl⟩
    · obtain ⟨c, hc, hy⟩ := List.mem_flatMap.1 hy
      obtain ⟨z, hz, hzs⟩ := unf_kids (hd c hc) hy hx hp
      exact ⟨z, List.mem_cons_of_mem _ (List.mem_flatMap.2 ⟨c, hc, hz⟩), hzs⟩

/-! ## The whole -/
def roots (S : List Sp) : List Sp := S.filter fun x => x.p == 0
def orphs (S : List Sp) : List Sp := S.filter fun x => !(x.p == 0) && !(fnd S x.p).isSome
/-- The branches of spans that stand in their order. -/
def brs (S : List Sp) : List Br := (roots S).flatMap (unf S 64 0 false) ++ (orphs S).flatMap (unf S 64 0 true)
theorem Tidy.zero {S : List Sp} {r : Int → Nat} (h : Tidy S r) : fnd S 0 = none := by
  rw [fnd_none]
  intro x hx
  have := h.pos x hx
  omega
theorem mem_roots {S : List Sp} {x : Sp} : x ∈ roots S ↔ x ∈ S ∧ x.p = 0 := by
  unfold roots
  rw [List.mem_filter, beq_iff_eq]
theorem mem_orphs {S : List Sp} {x : Sp} : x ∈ orphs S ↔ x ∈ S ∧ x.p ≠ 0 ∧ fnd S x.p = none := by
  unfold orphs
  rw [List.mem_filter, Bool.and_eq_true, Bool.not_eq_true', Bool.not_eq_true', beq_eq_false_iff_ne, Option.isSome_eq_false_iff, Option.isNone_iff_eq_none]
theorem top_one {S : List Sp} {x t t' : Sp} {k k' : Nat} (h : anc S k x = some t) (h' : anc S k' x = some t') (ht : fnd S t.p = none) (ht' : fnd S t'.p = none) : t = t' := by
  rcases Nat.le_total k k' with hk | hk
  · obtain ⟨j, rfl⟩ := Nat.exists_eq_add_of_le hk
    rw [anc_add h] at h'
    cases j with
    | zero => injection h'
    | succ j => unfold anc at h'; rw [ht] at h'; cases h'
  · obtain ⟨j, rfl⟩ := Nat.exists_eq_add_of_le hk
    rw [anc_add h'] at h
    cases j with
    | zero => injection h with h; exact h.symm
    | succ j => unfold anc at h; rw [ht'] at h; cases h
/-- What stands in the branches. -/
theorem mem_brs {S : List Sp} {r : Int → Nat} (hr : Tidy S r) {y : Br} (hy : y ∈ brs S) : y.s ∈ S ∧ ∃ (t : Sp) (k : Nat), t ∈ S ∧ fnd S t.p = none ∧ anc S k y.s = some t ∧ y.d = k ∧ y.o = (!(t.p == 0) && k == 0) := by
  unfold brs at hy
  rcases List.mem_append.1 hy with hy | hy
  · obtain ⟨t, ht, hy⟩ := List.mem_flatMap.1 hy
    obtain ⟨htS, htp⟩ := mem_roots.1 ht
    obtain ⟨h1, k, h2, h3, h4⟩ := mem_unf hr htS hy
    exact ⟨h1, t, k, htS, by rw [htp]; exact hr.zero, h2, by rw [h3]; omega, by rw [h4, htp]; rfl⟩
  · obtain ⟨t, ht, hy⟩ := List.mem_flatMap.1 hy
    obtain ⟨htS, htp, htn⟩ := mem_orphs.1 ht
    obtain ⟨h1, k, h2, h3, h4⟩ := mem_unf hr htS hy
    exact ⟨h1, t, k, htS, htn, h2, by rw [h3]; omega, by rw [h4, beq_eq_false_iff_ne.2 htp]; rfl⟩
theorem tops_nodup {S : List Sp} {r : Int → Nat} (hr : Tidy S r) (T : List Sp) (o : Bool) (hT : T.Nodup) (hm : ∀ t ∈ T, t ∈ S ∧ fnd S t.p = none) : ((T.flatMap (unf S 64 0 o)).map Br.s).Nodup := by
  rw [List.map_flatMap]
  unfold List.Nodup
  rw [List.pairwise_flatMap]
  refine ⟨fun c hc => unf_nodup hr (hm c hc).1, ?_⟩
  refine List.Pairwise.imp_of_mem (fun {c c'} hc hc' hne => ?_) hT
  intro a ha b hb e
  subst e
  obtain ⟨y, hy, rfl⟩ := List.mem_map.1 ha
  obtain ⟨y', hy', hs⟩ := List.mem_map.1 hb
  obtain ⟨h1, k, h2, _⟩ := mem_unf hr (hm c hc).1 hy
  obtain ⟨h1', k', h2', _⟩ := mem_unf hr (hm c' hc').1 hy'
  rw [hs] at h2'
  exact hne (top_one h2 h2' (hm c hc).2 (hm c' hc').2)
theorem brs_nodup {S : List Sp} {r : Int → Nat} (hr : Tidy S r) : ((brs S).map Br.s).Nodup := by
  unfold brs
  rw [List.map_append, List.nodup_append]
  refine ⟨tops_nodup hr _ _ (List.Pairwise.filter _ hr.nodup) fun t ht => ?_, tops_nodup hr _ _ (List.Pairwise.filter _ hr.nodup) fun t ht => ?_, ?_⟩
  · obtain ⟨h1, h2⟩ := mem_roots.1 ht
    exact ⟨h1, by rw [h2]; exact hr.zero⟩
  · obtain ⟨h1, h2, h3⟩ := mem_orphs.1 ht
    exact ⟨h1, h3⟩
  · intro a ha b hb e
    subst e
    obtain ⟨y, hy, rfl⟩ := List.mem_map.1 ha
    obtain ⟨y', hy', hs⟩ := List.mem_map.1 hb
    obtain ⟨t, ht, hy⟩ := List.mem_flatMap.1 hy
    obtain ⟨t', ht', hy'⟩ := List.mem_flatMap.1 hy'
    obtain ⟨g1, g2⟩ := mem_roots.1 ht
    obtain ⟨g1', g2', g3'⟩ := mem_orphs.1 ht'
    obtain ⟨h1, k, h2, _⟩ := mem_unf hr g1 hy
    obtain ⟨h1', k', h2', _⟩ := mem_unf hr g1' hy'
    rw [hs] at h2'
    have := top_one h2 h2' (by rw [g2]; exact hr.zero) g3'
    rw [← this] at g2'
    exact g2' g2
theorem brs_all {S : List Sp} {r : Int → Nat} (hr : Tidy S r) (hl : S.length ≤ 64) : ∀ (n : Nat) (x : Sp), r x.i ≤ n → x ∈ S → ∃ y ∈ brs S, y.s = x := by
  have top : ∀ x ∈ S, fnd S x.p = none → ∃ y ∈ brs S, y.s = x := fun x hx hf => by
    unfold brs
    by_cases hp : x.p = 0
    · obtain ⟨q, hq⟩ := unf_head (S := S) 64 0 false x
      exact ⟨_, List.mem_append_left _ (List.mem_flatMap.2 ⟨x, mem_roots.2 ⟨hx, hp⟩, by rw [hq]; exact List.mem_cons_self ..⟩), rfl⟩
    · obtain ⟨q, hq⟩ := unf_head (S := S) 64 0 true x
      exact ⟨_, List.mem_append_right _ (List.mem_flatMap.2 ⟨x, mem_orphs.2 ⟨hx, hp, hf⟩, by rw [hq]; exact List.mem_cons_self ..⟩), rfl⟩
  intro n
  induction n with
  | zero =>
    intro x hn hx
    cases hf : fnd S x.p with
    | none => exact top x hx hf
    | some u => have := hr.rises x hx u hf; omega
  | succ n ih =>
    intro x hn hx
    cases hf : fnd S x.p with
    | none => exact top x hx hf
    | some u =>
      have := hr.rises x hx u hf
      obtain ⟨y, hy, rfl⟩ := ih u (by omega) (fnd_mem hf).1
      unfold brs at hy ⊢
      rcases List.mem_append.1 hy with hy | hy
      · obtain ⟨t, ht, hy⟩ := List.mem_flatMap.1 hy
        obtain ⟨z, hz, hzs⟩ := unf_kids (deep_all hr (mem_roots.1 ht).1 hl) hy hx (fnd_mem hf).2.symm
        exact ⟨z, List.mem_append_left _ (List.mem_flatMap.2 ⟨t, ht, hz⟩), hzs⟩
      · obtain ⟨t, ht, hy⟩ := List.mem_flatMap.1 hy
        obtain ⟨z, hz, hzs⟩ := unf_kids (deep_all hr (mem_orphs.1 ht).1 hl) hy hx (fnd_mem hf).2.symm
        exact ⟨z, List.mem_append_right _ (List.mem_flatMap.2 ⟨t, ht, hz⟩), hzs⟩
/-- The branches have each span once. -/
theorem brs_perm {S : List Sp} {r : Int → Nat} (hr : Tidy S r) (hl : S.length ≤ 64) : ((brs S).map Br.s).Perm S := by
  rw [List.perm_ext_iff_of_nodup (brs_nodup hr) hr.nodup]
  intro x
  constructor
  · intro hx
    obtain ⟨y, hy, rfl⟩ := List.mem_map.1 hx
    exact (mem_brs hr hy).1
  · intro hx
    obtain ⟨y, hy, rfl⟩ := brs_all hr hl _ x (Nat.le_refl _) hx
    exact List.mem_map.2 ⟨y, hy, rfl⟩
theorem brs_len {S : List Sp} {r : Int → Nat} (hr : Tidy S r) (hl : S.length ≤ 64) : (brs S).length = S.length := by
  have := (brs_perm hr hl).length_eq
  rwa [List.length_map] at this

/-! ## The nearest one ahead -/
/-- Each one that is not at the top stands beneath the nearest one ahead that is less deep. -/
def Near (a l : List Br) : Prop := ∀ (a1 : List Br) (x : Br) (b : List Br), l = a1 ++ x :: b → 0 < x.d → ∃ y, (a ++ a1).reverse.find? (fun z => decide (z.d < x.d)) = some y ∧ y.d = x.d - 1 ∧ y.s.i = x.s.p
theorem Near.nil (a : List Br) : Near a [] := fun a1 x b h => by simp at h
theorem Near.app {a l m : List Br} (h : Near a l) (h' : Near (a ++ l) m) : Near a (l ++ m) := by
  intro a1 x b e hx
  rcases List.append_eq_append_iff.1 e with ⟨c, rfl, h2⟩ | ⟨c, h1, h2⟩
  · obtain ⟨y, hy⟩ := h' c x b h2 hx
    exact ⟨y, by rw [← List.append_assoc]; exact hy⟩
  · cases c with
    | nil =>
      rw [List.append_nil] at h1
      subst h1
      obtain ⟨y, hy⟩ := h' [] x b h2.symm hx
      exact ⟨y, by rw [List.append_nil] at hy; exact hy⟩
    | cons z c =>
      rw [List.cons_append] at h2
      injection h2 with h2 h3
      subst h2
      exact h a1 x c h1 hx
theorem find_skip {a l : List Br} {k : Int} (h : ∀ z ∈ l, k ≤ z.d) : (a ++ l).reverse.find? (fun z => decide (z.d < k)) = a.reverse.find? (fun z => decide (z.d < k)) := by
  rw [List.reverse_append, List.find?_append]
  have : l.reverse.find? (fun z => decide (z.d < k)) = none := by
    rw [List.find?_eq_none]
    intro z hz
    have := h z (List.mem_reverse.1 hz)
    simp
    omega
  rw [this]
  rfl
theorem unf_deep {S : List Sp} : ∀ {n : Nat} {d : Int} {o : Bool} {t : Sp} {y : Br}, y ∈ unf S n d o t → d ≤ y.d
  | 0, d, o, t, y, hy => by
    unfold unf at hy
    rw [List.mem_singleton] at hy
    subst hy
    exact Int.le_refl _
  | n + 1, d, o, t, y, hy => by
    unfold unf at hy
    rcases List.mem_cons.1 hy with rfl | hy
    · exact Int.le_refl _
    · obtain ⟨c, hc, hy⟩ := List.mem_flatMap.1 hy
      have := unf_deep hy
      omega
theorem near_kids {S : List Sp} {n : Nat} {d k : Int} (f : ∀ {a : List Br} {t : Sp}, (0 < d → ∃ y, a.reverse.find? (fun z => decide (z.d < d)) = some y ∧ y.d = d - 1 ∧ y.s.i = t.p) → Near a (unf S n d false t)) : ∀ (l : List Sp) {a : List Br}, (∀ c ∈ l, c.p = k) → (∃ y, a.reverse.find? (fun z => decide (z.d < d)) = some y ∧ y.d = d - 1 ∧ y.s.i = k) → Near a (l.flatMap (unf S n d false))
  | [], a, _, _ => Near.nil a
  | c :: l, a, hl, ha => by
    rw [List.flatMap_cons]
    refine Near.app (f fun _ => ?_) ?_
    · obtain ⟨y, h1, h2, h3⟩ := ha
      exact ⟨y, h1, h2, by rw [h3, hl c (List.mem_cons_self ..)]⟩
    · refine near_kids f l (fun c hc => hl c (List.mem_cons_of_mem _ hc)) ?_
      obtain ⟨y, h1, h2, h3⟩ := ha
      exact ⟨y, by rw [find_skip fun z hz => unf_deep hz]; exact h1, h2, h3⟩
theorem near_unf {S : List Sp} : ∀ {n : Nat} {d : Int} {o : Bool} {t : Sp} {a : List Br}, (0 < d → ∃ y, a.reverse.find? (fun z => decide (z.d < d)) = some y ∧ y.d = d - 1 ∧ y.s.i = t.p) → Near a (unf S n d o t) := by
  intro n
  induction n with
  | zero =>
    intro d o t a h a1 x b e hx
    unfold unf at e
    cases a1 with
    | nil =>
      injection e with e1 e2
      subst e1
      rw [List.append_nil]
      exact h hx
    | cons z a1 => injection e with e1 e2; simp at e2
  | succ n ih =>
    intro d o t a h
    unfold unf
    rw [show (⟨d, o, t⟩ : Br) :: (kids S t.i).flatMap (unf S n (d + 1) false) = [⟨d, o, t⟩] ++ (kids S t.i).flatMap (unf S n (d + 1) false) from rfl]
    refine Near.app (fun a1 x b e hx => ?_) ?_
    · cases a1 with
      | nil =>
        injection e with e1 e2
        subst e1
        rw [List.append_nil]
        exact h hx
      | cons z a1 => injection e with e1 e2; simp at e2
    · refine near_kids (k := t.i) (fun {a t} h => ih h) _ (fun c hc => (mem_kids.1 hc).2) ⟨⟨d, o, t⟩, ?_, by simp only; omega, rfl⟩
      rw [List.reverse_append]
      simp
      omega
theorem near_tops {S : List Sp} {o : Bool} : ∀ (l : List Sp) {a : List Br}, Near a (l.flatMap (unf S 64 0 o))
  | [], a => Near.nil a
  | c :: l, a => by
    rw [List.flatMap_cons]
    exact Near.app (near_unf fun h => by omega) (near_tops l)
theorem near_brs (S : List Sp) : Near [] (brs S) := by
  unfold brs
  exact Near.app (near_tops _) (by exact near_tops _)
theorem near_at {S : List Sp} {i : Nat} {x : Br} (hx : (brs S)[i]? = some x) (hd : 0 < x.d) : ∃ y, ((brs S).take i).reverse.find? (fun z => decide (z.d < x.d)) = some y ∧ y.d = x.d - 1 ∧ y.s.i = x.s.p := by
  have hi := (List.getElem?_eq_some_iff.1 hx).1
  have e : brs S = (brs S).take i ++ x :: (brs S).drop (i + 1) := by
    have h1 : (brs S).drop i = x :: (brs S).drop (i + 1) := by
      rw [List.drop_eq_getElem_cons hi]
      rw [List.getElem?_eq_getElem hi] at hx
      injection hx with hx
      rw [hx]
    rw [← h1, List.take_append_drop]
  have := near_brs S _ x _ e hd
  rwa [List.nil_append] at this
/-- Looking back, one place further. -/
theorem back_step {l : List Br} {k : Nat} {y : Br} (hy : l[k]? = some y) {d : Int} : (l.take (k + 1)).reverse.find? (fun z => decide (z.d < d)) = if y.d < d then some y else (l.take k).reverse.find? (fun z => decide (z.d < d)) := by
  have h1 : l.take (k + 1) = l.take k ++ [y] := by rw [List.take_add_one, hy]; rfl
  rw [h1, List.reverse_append, List.reverse_singleton, List.singleton_append, List.find?_cons]
  by_cases h : y.d < d
  · rw [if_pos h, decide_eq_true h]
  · rw [if_neg h, decide_eq_false h]

/-! ## The document's way -/
/-- What stands beneath a parent, as the document has it: m more may be gone down. -/
def benP (S : List Sp) : Nat → Int → Int → List Br
  | 0, _, _ => []
  | m + 1, k, d => (kids S k).flatMap fun s => ⟨d, false, s⟩ :: benP S m s.i (d + 1)
theorem benP_unf {S : List Sp} : ∀ {n m : Nat} {d : Int} {o : Bool} {t : Sp}, Deep S n t → n ≤ m → (⟨d, o, t⟩ : Br) :: benP S m t.i (d + 1) = unf S n d o t
  | 0, 0, d, o, t, h, _ => rfl
  | 0, m + 1, d, o, t, h, _ => by
    unfold benP unf
    rw [show kids S t.i = [] from h]
    rfl
  | n + 1, 0, _, _, _, _, hn => by omega
  | n + 1, m + 1, d, o, t, h, hn => by
    unfold benP unf
    rw [List.flatMap_def, List.flatMap_def]
    congr 2
    apply List.map_congr_left
    intro c hc
    exact benP_unf (h c hc) (by omega)
theorem flatMap_eq {α β : Type} {f g : α → List β} : ∀ {l : List α}, (∀ c ∈ l, f c = g c) → l.flatMap f = l.flatMap g
  | [], _ => rfl
  | c :: l, h => by
    rw [List.flatMap_cons, List.flatMap_cons, h c (List.mem_cons_self ..), flatMap_eq fun d hd => h d (List.mem_cons_of_mem _ hd)]
theorem benP_succ (S : List Sp) (m : Nat) (k d : Int) : benP S (m + 1) k d = (kids S k).flatMap fun s => ⟨d, false, s⟩ :: benP S m s.i (d + 1) := rfl
theorem brs_ben {S : List Sp} {r : Int → Nat} (hr : Tidy S r) (hl : S.length ≤ 64) : brs S = benP S 65 0 0 ++ (orphs S).flatMap fun s => ⟨0, true, s⟩ :: benP S 64 s.i 1 := by
  have h1 : (roots S).flatMap (unf S 64 0 false) = benP S (64 + 1) 0 0 := by
    rw [benP_succ]
    exact flatMap_eq fun c hc => (benP_unf (d := 0) (o := false) (deep_all hr (mem_roots.1 hc).1 hl) (Nat.le_refl _)).symm
  have h2 : (orphs S).flatMap (unf S 64 0 true) = (orphs S).flatMap fun s => ⟨0, true, s⟩ :: benP S 64 s.i 1 :=
    flatMap_eq fun c hc => (benP_unf (d := 0) (o := true) (deep_all hr (mem_orphs.1 hc).1 hl) (Nat.le_refl _)).symm
  unfold brs
  rw [h1, h2]
end Go.Proofs.YtimjplkehlgelaaGreat
