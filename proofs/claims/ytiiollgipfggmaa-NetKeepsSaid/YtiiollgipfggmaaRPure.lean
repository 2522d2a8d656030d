/- Voters plainly. -/
namespace Go.Proofs.Ytiiollgipfggmaa
set_option linter.unusedVariables false
set_option linter.unusedSimpArgs false

/-- From lo on they rise, up to 6. -/
def okFrom : Int → List Int → Bool
  | _, [] => true
  | lo, n :: r => decide (lo ≤ n) && decide (n < 7) && okFrom (n + 1) r
def okR (l : List Int) : Bool := !l.isEmpty && okFrom 0 l
def chkI (l : List Int) : Int := if okR l then 0 else 100
theorem okFrom_mem : ∀ {lo : Int} {l : List Int}, okFrom lo l = true → ∀ x ∈ l, lo ≤ x ∧ x < 7
  | lo, [], _, x, hx => by cases hx
  | lo, n :: r, h, x, hx => by
    simp only [okFrom, Bool.and_eq_true, decide_eq_true_eq] at h
    rcases List.mem_cons.1 hx with rfl | hx
    · exact ⟨h.1.1, h.1.2⟩
    · have := okFrom_mem h.2 x hx
      omega
theorem okFrom_rise : ∀ {lo : Int} {l : List Int}, okFrom lo l = true → l.Pairwise (· < ·)
  | lo, [], _ => List.Pairwise.nil
  | lo, n :: r, h => by
    simp only [okFrom, Bool.and_eq_true, decide_eq_true_eq] at h
    exact List.Pairwise.cons (fun x hx => by have := okFrom_mem h.2 x hx; omega) (okFrom_rise h.2)
theorem okR_mem {l : List Int} (h : okR l = true) : ∀ x ∈ l, 0 ≤ x ∧ x < 7 := by
  simp only [okR, Bool.and_eq_true] at h
  exact okFrom_mem h.2
theorem okR_rise {l : List Int} (h : okR l = true) : l.Pairwise (· < ·) := by
  simp only [okR, Bool.and_eq_true] at h
  exact okFrom_rise h.2
theorem okR_pos {l : List Int} (h : okR l = true) : 0 < l.length := by
  cases l with
  | nil => simp [okR] at h
  | cons x r => simp
theorem rise_okFrom : ∀ {lo : Int} {l : List Int}, l.Pairwise (· < ·) → (∀ x ∈ l, lo ≤ x ∧ x < 7) → okFrom lo l = true
  | lo, [], _, _ => rfl
  | lo, n :: r, hp, h => by
    have h0 := h n (List.mem_cons_self ..)
    cases hp with
    | cons a b =>
      simp only [okFrom, Bool.and_eq_true, decide_eq_true_eq]
      exact ⟨⟨h0.1, h0.2⟩, rise_okFrom b fun x hx => ⟨by have := a x hx; omega, (h x (List.mem_cons_of_mem _ hx)).2⟩⟩
theorem okR_iff {l : List Int} : okR l = true ↔ 0 < l.length ∧ l.Pairwise (· < ·) ∧ ∀ x ∈ l, 0 ≤ x ∧ x < 7 := by
  constructor
  · exact fun h => ⟨okR_pos h, okR_rise h, okR_mem h⟩
  · rintro ⟨h0, h1, h2⟩
    simp only [okR, Bool.and_eq_true]
    exact ⟨by cases l with | nil => simp at h0 | cons => rfl, rise_okFrom h1 h2⟩
theorem rise_ext : ∀ {l m : List Int}, l.Pairwise (· < ·) → m.Pairwise (· < ·) → (∀ x, x ∈ l ↔ x ∈ m) → l = m
  | [], [], _, _, _ => rfl
  | [], y :: s, _, _, h => absurd ((h y).2 (List.mem_cons_self ..)) (by simp)
  | x :: r, [], _, _, h => absurd ((h x).1 (List.mem_cons_self ..)) (by simp)
  | x :: r, y :: s, .cons a b, .cons c d, h => by
    have h1 := (h x).1 (List.mem_cons_self ..)
    have h2 := (h y).2 (List.mem_cons_self ..)
    have e : x = y := by
      rcases List.mem_cons.1 h1 with e | e
      · exact e
      · rcases List.mem_cons.1 h2 with e' | e'
        · exact e'.symm
        · have := c x e
          have := a y e'
          omega
    subst e
    congr 1
    refine rise_ext b d fun z => ⟨fun hz => ?_, fun hz => ?_⟩
    · rcases List.mem_cons.1 ((h z).1 (List.mem_cons_of_mem _ hz)) with e | e
      · have := a z hz
        omega
      · exact e
    · rcases List.mem_cons.1 ((h z).2 (List.mem_cons_of_mem _ hz)) with e | e
      · have := c z hz
        omega
      · exact e
/-- All that may vote. -/
def seven : List Int := [0, 1, 2, 3, 4, 5, 6]
theorem mem_seven {x : Int} : x ∈ seven ↔ 0 ≤ x ∧ x < 7 := by
  simp only [seven, List.mem_cons, List.not_mem_nil, or_false]
  omega
theorem seven_rise : seven.Pairwise (· < ·) := by decide
theorem okR_seven {l : List Int} (h : okR l = true) : l = seven.filter (l.contains ·) :=
  rise_ext (okR_rise h) (seven_rise.sublist List.filter_sublist) fun x => by
    rw [List.mem_filter, mem_seven, List.contains_iff_mem]
    exact ⟨fun hx => ⟨okR_mem h x hx, hx⟩, fun hx => hx.2⟩

/-- A majority. -/
def among (V S : List Int) : Nat := V.countP (S.contains ·)
def maj (V S : List Int) : Bool := okR V && decide (V.length < 2 * among V S)
theorem among_le (V S : List Int) : among V S ≤ V.length := List.countP_le_length

/-- One more. -/
def oneM (a b : List Int) : Bool := a.all (b.contains ·) && decide (b.length = a.length + 1)
def mayI (a b : List Int) : Int := if okR a && okR b then if oneM a b || oneM b a then 0 else 101 else 100
def unlike (a b : List Int) : Nat := seven.countP fun n => a.contains n != b.contains n
theorem counts (f g : Int → Bool) (U : List Int) : U.countP g + U.countP (fun n => f n && !g n) = U.countP f + U.countP (fun n => g n && !f n) ∧ U.countP (fun n => f n != g n) = U.countP (fun n => f n && !g n) + U.countP (fun n => g n && !f n) := by
  induction U with
  | nil => simp
  | cons x r ih =>
    simp only [List.countP_cons]
    cases f x <;> cases g x <;> simp <;> omega
theorem sub_zero (f g : Int → Bool) (U : List Int) : (U.filter f).all g = decide (U.countP (fun n => f n && !g n) = 0) := by
  induction U with
  | nil => simp
  | cons x r ih =>
    rw [List.filter_cons, List.countP_cons]
    cases hf : f x <;> cases hg : g x <;> simp [hf, hg, ih]
theorem may_unlike {a b : List Int} (ha : okR a = true) (hb : okR b = true) : (oneM a b || oneM b a) = decide (unlike a b = 1) := by
  have e1 := okR_seven ha
  have e2 := okR_seven hb
  obtain ⟨h1, h2⟩ := counts (a.contains ·) (b.contains ·) seven
  have l1 : a.length = seven.countP (a.contains ·) := by rw [List.countP_eq_length_filter, ← e1]
  have l2 : b.length = seven.countP (b.contains ·) := by rw [List.countP_eq_length_filter, ← e2]
  have s1 := sub_zero (a.contains ·) (b.contains ·) seven
  have s2 := sub_zero (b.contains ·) (a.contains ·) seven
  rw [← e1] at s1
  rw [← e2] at s2
  unfold oneM unlike
  rw [s1, s2, l1, l2, Bool.eq_iff_iff]
  simp only [Bool.or_eq_true, Bool.and_eq_true, decide_eq_true_eq]
  omega

/-- Two majorities meet. -/
theorem apart_le (a b u : Int → Bool) (ha : ∀ x, a x = true → u x = true) (hb : ∀ x, b x = true → u x = true) : ∀ (U : List Int), (∀ x ∈ U, ¬ (a x = true ∧ b x = true)) → U.countP a + U.countP b ≤ U.countP u
  | [], _ => by simp
  | x :: r, h => by
    have ih := apart_le a b u ha hb r fun y hy => h y (List.mem_cons_of_mem _ hy)
    have h0 := h x (List.mem_cons_self ..)
    have h1 := ha x
    have h2 := hb x
    simp only [List.countP_cons]
    cases hax : a x <;> cases hbx : b x
    · cases u x <;> simp <;> omega
    · rw [h2 hbx]
      simp
      omega
    · rw [h1 hax]
      simp
      omega
    · exact absurd ⟨hax, hbx⟩ h0
theorem count_or (f g : Int → Bool) (U : List Int) : U.countP (fun x => f x || g x) = U.countP f + U.countP (fun x => g x && !f x) := by
  induction U with
  | nil => simp
  | cons x r ih =>
    simp only [List.countP_cons]
    cases f x <;> cases g x <;> simp <;> omega
theorem count_seven {V : List Int} (h : okR V = true) (p : Int → Bool) : V.countP p = seven.countP fun n => V.contains n && p n := by
  conv => lhs; rw [okR_seven h]
  rw [List.countP_filter]
  congr 1
  funext x
  exact Bool.and_comm _ _
theorem meets {o n s t : List Int} (hm : mayI o n = 0 ∨ (o = n ∧ okR o = true)) (h1 : maj o s = true) (h2 : maj n t = true) : ∃ x ∈ s, t.contains x = true ∧ (o.contains x = true ∨ n.contains x = true) := by
  simp only [maj, Bool.and_eq_true, decide_eq_true_eq] at h1 h2
  obtain ⟨ho, c1⟩ := h1
  obtain ⟨hn, c2⟩ := h2
  unfold among at c1 c2
  rw [count_seven ho] at c1
  rw [count_seven hn] at c2
  have l1 : o.length = seven.countP (o.contains ·) := by rw [List.countP_eq_length_filter, ← okR_seven ho]
  have l2 : n.length = seven.countP (n.contains ·) := by rw [List.countP_eq_length_filter, ← okR_seven hn]
  have hu : 2 * seven.countP (fun x => o.contains x || n.contains x) ≤ o.length + n.length + 1 := by
    obtain ⟨q1, q2⟩ := counts (o.contains ·) (n.contains ·) seven
    have q3 := count_or (o.contains ·) (n.contains ·) seven
    rcases hm with hm | ⟨rfl, _⟩
    · have hmu := may_unlike ho hn
      have : (oneM o n || oneM n o) = true := by
        unfold mayI at hm
        simp only [ho, hn, Bool.and_self, if_true] at hm
        by_cases e : (oneM o n || oneM n o) = true
        · exact e
        · rw [if_neg e] at hm
          omega
      rw [this] at hmu
      have hmu := of_decide_eq_true hmu.symm
      unfold unlike at hmu
      omega
    · have z : seven.countP (fun x => o.contains x && !o.contains x) = 0 := by simp
      rw [z] at q3
      omega
  by_cases hc : ∃ x ∈ seven, (o.contains x && s.contains x) = true ∧ (n.contains x && t.contains x) = true
  · obtain ⟨x, hx, h3, h4⟩ := hc
    simp only [Bool.and_eq_true] at h3 h4
    exact ⟨x, List.contains_iff_mem.1 h3.2, h4.2, .inl h3.1⟩
  · exfalso
    have := apart_le (fun x => o.contains x && s.contains x) (fun x => n.contains x && t.contains x) (fun x => o.contains x || n.contains x)
      (fun x hx => by simp only [Bool.and_eq_true] at hx; rw [hx.1]; rfl) (fun x hx => by simp only [Bool.and_eq_true] at hx; rw [hx.1, Bool.or_true]) seven (fun x hx hb => hc ⟨x, hx, hb⟩)
    omega

/-- What node n has reached. -/
def num (R : List Int) (n : Int) : Int := if n.toNat < R.length then max (R.getD n.toNat 0) 0 else 0
def nums (V R : List Int) : List Int := V.map (num R)
/-- How many of V have reached y. -/
def reach (V R : List Int) (y : Int) : Nat := V.countP fun n => decide (n.toNat < R.length) && decide (y ≤ R.getD n.toNat 0)
/-- What is agreed: c. -/
structure Agr (V R : List Int) (c : Int) : Prop where
  nn : 0 ≤ c
  at_ : c = 0 ∨ c ∈ R ∧ V.length < 2 * reach V R c
  up : ∀ y, c < y → ¬ V.length < 2 * reach V R y
theorem Agr.one {V R : List Int} {c b : Int} (h : Agr V R c) (h0 : 0 ≤ b) (hb : b = 0 ∨ V.length < 2 * reach V R b) (hn : ∀ x ∈ R, b < x → ¬ V.length < 2 * reach V R x) : b = c := by
  rcases Int.lt_trichotomy b c with hlt | e | hlt
  · rcases h.at_ with e | ⟨hm, hr⟩
    · omega
    · exact absurd hr (hn c hm hlt)
  · exact e
  · rcases hb with rfl | hb
    · have := h.nn
      omega
    · exact absurd hb (h.up b hlt)
theorem reach_mono {V R S : List Int} {y : Int} (hl : R.length = S.length) (hle : ∀ i, i < R.length → R.getD i 0 ≤ S.getD i 0) : reach V R y ≤ reach V S y := by
  unfold reach
  refine List.countP_mono_left fun n _ h => ?_
  simp only [Bool.and_eq_true, decide_eq_true_eq] at h ⊢
  have := hle n.toNat h.1
  exact ⟨by omega, by omega⟩
theorem Agr.mono {V R S : List Int} {c d : Int} (h : Agr V R c) (hs : Agr V S d) (hl : R.length = S.length) (hle : ∀ i, i < R.length → R.getD i 0 ≤ S.getD i 0) : c ≤ d := by
  rcases Int.lt_or_le d c with hlt | hle'
  · rcases h.at_ with e | ⟨_, hr⟩
    · have := hs.nn
      omega
    · have := reach_mono (V := V) (y := c) hl hle
      exact absurd (by omega) (hs.up c hlt)
  · exact hle'
theorem countP_nums (V R : List Int) (y : Int) (hy : 0 < y) : (nums V R).countP (fun x => decide (y ≤ x)) = reach V R y := by
  unfold nums reach
  rw [List.countP_map]
  congr 1
  funext n
  simp only [Function.comp]
  rw [Bool.eq_iff_iff, Bool.and_eq_true, decide_eq_true_eq, decide_eq_true_eq, decide_eq_true_eq]
  unfold num
  by_cases h : n.toNat < R.length
  · rw [if_pos h]
    omega
  · rw [if_neg h]
    omega
theorem agr_nth {V R s : List Int} (hV : 0 < V.length) (hp : s.Perm (nums V R)) (hs : s.Pairwise (· ≤ ·)) : Agr V R (s.getD ((V.length - 1) / 2) 0) := by
  have hlen : s.length = V.length := by rw [hp.length_eq, nums, List.length_map]
  obtain ⟨k, hk⟩ : ∃ k, (V.length - 1) / 2 = k := ⟨_, rfl⟩
  rw [hk]
  have hkl : k < s.length := by omega
  obtain ⟨v, hv⟩ : ∃ v, s.getD k 0 = v := ⟨_, rfl⟩
  have hv' : s[k] = v := by rw [← hv, List.getD_eq_getElem?_getD, List.getElem?_eq_getElem hkl]; rfl
  rw [hv]
  have hmem : v ∈ nums V R := hp.mem_iff.1 (hv' ▸ List.getElem_mem hkl)
  have hdrop : ∀ x ∈ s.drop k, v ≤ x := by
    intro x hx
    obtain ⟨i, hi, rfl⟩ := List.mem_iff_getElem.1 hx
    rw [List.getElem_drop]
    rw [List.length_drop] at hi
    by_cases e : i = 0
    · subst e
      simp [hv']
    · rw [← hv']
      exact List.pairwise_iff_getElem.1 hs k (k + i) hkl (by omega) (by omega)
  have htake : ∀ x ∈ s.take (k + 1), x ≤ v := by
    intro x hx
    obtain ⟨i, hi, rfl⟩ := List.mem_iff_getElem.1 hx
    rw [List.length_take] at hi
    rw [List.getElem_take]
    by_cases e : i = k
    · subst e
      simp [hv']
    · rw [← hv']
      exact List.pairwise_iff_getElem.1 hs i k (by omega) hkl (by omega)
  obtain ⟨n, hn, hnv⟩ := List.mem_map.1 hmem
  have h0 : 0 ≤ v := by
    rw [← hnv]
    unfold num
    split <;> omega
  refine ⟨h0, ?_, fun y hy hc => ?_⟩
  · by_cases e : v = 0
    · exact .inl e
    · refine .inr ⟨?_, ?_⟩
      · unfold num at hnv
        by_cases hl : n.toNat < R.length
        · rw [if_pos hl] at hnv
          have : R.getD n.toNat 0 = v := by omega
          rw [← this, List.getD_eq_getElem?_getD, List.getElem?_eq_getElem hl]
          exact List.getElem_mem hl
        · rw [if_neg hl] at hnv
          omega
      · rw [← countP_nums V R v (by omega), ← hp.countP_eq, ← List.take_append_drop k s, List.countP_append]
        have : (s.drop k).countP (fun x => decide (v ≤ x)) = (s.drop k).length := List.countP_eq_length.2 fun x hx => by simpa using hdrop x hx
        rw [this, List.length_drop]
        omega
  · rw [← countP_nums V R y (by omega), ← hp.countP_eq, ← List.take_append_drop (k + 1) s, List.countP_append] at hc
    have : (s.take (k + 1)).countP (fun x => decide (y ≤ x)) = 0 := List.countP_eq_zero.2 fun x hx => by have := htake x hx; simp; omega
    have h2 := List.countP_le_length (p := fun x => decide (y ≤ x)) (l := s.drop (k + 1))
    rw [List.length_drop] at h2
    omega
end Go.Proofs.Ytiiollgipfggmaa
