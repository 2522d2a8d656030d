/- Whole posts of a ledger's calls: what they leave, plainly and in memory. -/
import Derived.Test.YtmalhdiholblgaaLRebW
namespace Go.Proofs.Ytmalhdiholblgaa
set_option linter.unusedVariables false
set_option linter.unusedSimpArgs false
open Go.RowKit

theorem run_pushesE2 {B : Nat} {w : World} {v u : Value} {l m : List Ec} (h : OwnE B w v l) (hu : Ecs w u m) (hB : B ≤ w.heap.size) (hs : (l.length + m.length) * 40 ≤ 140737488355328) :
    ∃ v' w', (Builtin.append_ #[22, 22] 22 #[v, u]).run Try.prog w = .ok v' w' ∧ OwnE B w' v' (l ++ m) ∧ Below B w w' ∧ w.grownBy w' v.ownBlock ∧ (v'.ownBlock = v.ownBlock ∨ v'.ownBlock = some w.heap.size) := by
  obtain ⟨i0, hi0, hz0, hz1, hz2⟩ := info_parts Try.infoEc
  obtain ⟨p, n, c, rfl⟩ := hu.sl
  have hn := hu.len.1
  by_cases h0 : n = 0
  · subst h0
    obtain rfl : m = [] := List.eq_nil_of_length_eq_zero hn.symm
    exact ⟨v, w, run_pushE_none h p c, by rw [List.append_nil]; exact h, Below.refl _ _, World.grownBy.refl _ _, .inl rfl⟩
  · obtain ⟨g, o, rfl, hx⟩ := hu.at_ (by omega)
    obtain ⟨v', w', hr, h1, h2, _, h4⟩ := run_append_own_at (P := Try.prog) w B 22 22 48 i0 _ 3 40 Try.underlying22 hi0 hz0 hz1 hz2 rfl (by decide) v l.length (l.flatMap ecC) h ⟨g, o, none⟩ n c (m.flatMap ecC) (by rw [eflat_len, hn])
      (fun j u hj => by
        obtain ⟨x, hxj, hk⟩ := eflat_get2 hj
        have := hx (j / 3) x hxj (j % 3) u hk
        rw [show o + j / 3 * 3 + j % 3 = o + j by omega] at this
        rw [add_lit0]
        exact this)
      (fun u hu => by
        obtain ⟨x, _, hx⟩ := List.mem_flatMap.1 hu
        exact ecC_one x u hx) (by simp only [maxLen]; omega) (by omega) hB
    refine ⟨v', w', hr, ?_, (Below.refl _ _).grown h2 hB fun k hk => (World.ownsRow.lt h k hk).1, h2, h4⟩
    unfold OwnE
    rw [List.flatMap_append, List.length_append, ← hn]
    exact h1
theorem step_pushesE2 {V : World} {ops : Array Oper} {o : Oper} {a : Act} {K : Act → World → Prop} {Q : Exit → Act → World → Prop} {E : Prop} (hgd : o.guard = none) (s x : Operand)
    (ho : o.op = .call { callee := .builtin .append, args := #[s, x], argTypes := #[22, 22] }) (hty : o.type = 22) {B : Nat} {v u : Value} {l m : List Ec}
    (hs : a.eval s = v) (hx : a.eval x = u) (h : OwnE B V v l) (hu : Ecs V u m) (hB : B ≤ V.heap.size) (hn : (l.length + m.length) * 40 ≤ 140737488355328)
    (hK : ∀ v' V', OwnE B V' v' (l ++ m) → Below B V V' → V.grownBy V' v.ownBlock → (v'.ownBlock = v.ownBlock ∨ v'.ownBlock = some V.heap.size) → K (a.put o.dst v') V') : if Region.wanted o (yielded ops a.tmps) = true then Oper.wp Try.prog o a V K Q else E := by
  obtain ⟨v', w', hr, h1, h2, h3, h4⟩ := run_pushesE2 h hu hB hn
  exact step_append_runE hgd s x ho hty hs hx hr (hK v' w' h1 h2 h3 h4)
theorem wpList_pushesE2 {w : World} {ops : Array Oper} {rest : List Oper} {o : Oper} {a : Act} {Q : Exit → Act → World → Prop} (hgd : o.guard = none) (s t : Operand)
    (ho : o.op = .call { callee := .builtin .append, args := #[s, t], argTypes := #[22, 22] }) (hty : o.type = 22) {B : Nat} {v u : Value} {l m : List Ec}
    (hs : a.eval s = v) (ht : a.eval t = u) (h : OwnE B w v l) (hu : Ecs w u m) (hB : B ≤ w.heap.size) (hn : (l.length + m.length) * 40 ≤ 140737488355328)
    (hK : ∀ v' w', OwnE B w' v' (l ++ m) → Below B w w' → w.grownBy w' v.ownBlock → (v'.ownBlock = v.ownBlock ∨ v'.ownBlock = some w.heap.size) → wpList Try.prog ops Q rest (a.put o.dst v') w') : wpList Try.prog ops Q (o :: rest) a w := by
  obtain ⟨v', w', hr, h1, h2, h3, h4⟩ := run_pushesE2 h hu hB hn
  exact Lib.wpList_append_run_sl _ hgd s t 22 ho v _ hs ht (by rw [hty]; exact hr) (hK v' w' h1 h2 h3 h4)

/-! Plainly. -/
theorem Lg.end_cons (ix tm : Int) (e : En) (r : List En) : (Lg.mk ix tm (e :: r)).end_ = (Lg.mk e.i e.t r).end_ := by
  unfold Lg.end_
  cases r with
  | nil => rfl
  | cons a r =>
    show (match (e :: a :: r).getLast? with | none => (ix, tm) | some e => (e.i, e.t)) = _
    rw [List.getLast?_cons_cons, List.getLast?_cons]
theorem goOn_append : ∀ (l : List En) {ix tm : Int} {m : List En}, goOn ix tm (l ++ m) = (goOn ix tm l && goOn (Lg.mk ix tm l).end_.1 (Lg.mk ix tm l).end_.2 m)
  | [], _, _, _ => by simp [goOn, Lg.end_]
  | e :: r, ix, tm, m => by
    simp only [List.cons_append, goOn]
    rw [Lg.end_cons, goOn_append r, Bool.and_assoc]
theorem goOn_take {ix tm : Int} {l : List En} (h : goOn ix tm l = true) (k : Nat) : goOn ix tm (l.take k) = true := by
  rw [← List.take_append_drop k l, goOn_append, Bool.and_eq_true] at h
  exact h.1
theorem goOn_drop {ix tm : Int} {l : List En} (h : goOn ix tm l = true) (k : Nat) : goOn (Lg.mk ix tm (l.take k)).end_.1 (Lg.mk ix tm (l.take k)).end_.2 (l.drop k) = true := by
  rw [← List.take_append_drop k l, goOn_append, Bool.and_eq_true] at h
  exact h.2
def addR (x : Lg) (L : List En) : Int × Lg := if goOn x.end_.1 x.end_.2 L = true then (0, ⟨x.ix, x.tm, x.l ++ L⟩) else (110, x)
def cutR (x : Lg) (i : Int) : Int × Lg := if hasI x i = true then (0, ⟨x.ix, x.tm, x.l.take (i - x.ix - 1).toNat⟩) else (51, x)
def rebR (x : Lg) (i t : Int) : Int × Lg := if (good i t && decide (x.ix ≤ i)) = true then (0, ⟨i, t, if agreesI x i t = true then x.l.drop (i - x.ix).toNat else []⟩) else (110, x)
theorem Lg.Ok.add {x : Lg} (h : x.Ok) {L : List En} (hq : goOn x.end_.1 x.end_.2 L = true) : (Lg.mk x.ix x.tm (x.l ++ L)).Ok := ⟨h.good, by
  show goOn x.ix x.tm (x.l ++ L) = true
  rw [goOn_append, h.on]
  exact hq⟩
theorem Lg.Ok.cut {x : Lg} (h : x.Ok) (k : Nat) : (Lg.mk x.ix x.tm (x.l.take k)).Ok := ⟨h.good, goOn_take h.on k⟩
theorem agrees_end {x : Lg} (h : x.Ok) {i t : Int} (hle : x.ix ≤ i) (ha : agreesI x i t = true) : i ≤ x.ix + x.l.length ∧ (Lg.mk x.ix x.tm (x.l.take (i - x.ix).toNat)).end_ = (i, t) := by
  have hg := good_le h.good
  unfold agreesI at ha
  by_cases h0 : i = x.ix
  · subst h0
    have h1 : x.at_ x.ix = (x.tm, true) := by unfold Lg.at_; rw [if_pos rfl]
    rw [h1] at ha
    simp at ha
    subst ha
    refine ⟨by omega, ?_⟩
    rw [show (x.ix - x.ix).toNat = 0 by omega]
    rfl
  · unfold Lg.at_ at ha
    rw [if_neg h0] at ha
    by_cases h2 : x.ix < i ∧ i ≤ x.ix + x.l.length
    · rw [if_pos h2] at ha
      have he := List.getElem?_eq_getElem (l := x.l) (i := (i - x.ix - 1).toNat) (by omega)
      obtain ⟨e, hee⟩ : ∃ e, x.l[(i - x.ix - 1).toNat]'(by omega) = e := ⟨_, rfl⟩
      rw [hee] at he
      rw [he] at ha
      have ht : e.t = t := by simpa using ha
      have hi := (goOn_get h.on hg.1 hg.2.1 _ e he).1
      refine ⟨h2.2, ?_⟩
      rw [Lg.end_get (x := Lg.mk x.ix x.tm (x.l.take (i - x.ix).toNat)) (k := (i - x.ix - 1).toNat) (e := e) (by
        show (x.l.take (i - x.ix).toNat)[(i - x.ix - 1).toNat]? = some e
        rw [List.getElem?_take_of_lt (by omega)]
        exact he) (by
        show _ = (x.l.take (i - x.ix).toNat).length
        rw [List.length_take]
        omega), ht, show e.i = i by omega]
    · rw [if_neg h2] at ha
      simp at ha
theorem Lg.Ok.reb {x : Lg} (h : x.Ok) {i t : Int} (hq : (Go.Proofs.Ytmalhdiholblgaa.good i t && decide (x.ix ≤ i)) = true) : (Lg.mk i t (if agreesI x i t = true then x.l.drop (i - x.ix).toNat else [])).Ok := by
  rw [Bool.and_eq_true] at hq
  refine ⟨hq.1, ?_⟩
  by_cases ha : agreesI x i t = true
  · rw [if_pos ha]
    have h1 := (agrees_end h (by simpa using hq.2) ha).2
    have h2 := goOn_drop h.on (i - x.ix).toNat
    rw [h1] at h2
    exact h2
  · rw [if_neg ha]
    rfl

/-! In memory. -/
theorem DatO.grown {B : Nat} {w w' : World} {v : Value} {E : List Ec} {L : List En} {row : Option Nat} (h : DatO B w v E L) (hg : w.grownBy w' row) (hne : ∀ e ∈ E, e.c = 0 ∨ ∀ k, (Value.slice e.p e.n e.c).ownBlock = some k → row ≠ some k) : DatO B w' v E L := ⟨h.1, fun k e x h1 h2 => by
  obtain ⟨a, b, c, f, d⟩ := h.2 k e x h1 h2
  exact ⟨a, b, c.grown hg (hne e (List.mem_of_getElem? h1)), f, d⟩⟩
theorem DatO.to {B : Nat} {w : World} {v v' : Value} {E : List Ec} {L : List En} (h : DatO B w v E L) (hv : ∀ e ∈ E, Far e v') : DatO B w v' E L := ⟨h.1, fun k e x h1 h2 => by
  obtain ⟨a, b, c, f, d⟩ := h.2 k e x h1 h2
  exact ⟨a, b, c, hv e (List.mem_of_getElem? h1), d⟩⟩
theorem DatO.app {B : Nat} {w : World} {v : Value} {E E' : List Ec} {L L' : List En} (h : DatO B w v E L) (h' : DatO B w v E' L') : DatO B w v (E ++ E') (L ++ L') := ⟨by rw [List.length_append, List.length_append, h.1, h'.1], fun k e x h1 h2 => by
  by_cases hk : k < E.length
  · rw [List.getElem?_append_left hk] at h1
    rw [List.getElem?_append_left (by rw [← h.1]; exact hk)] at h2
    exact h.2 k e x h1 h2
  · rw [List.getElem?_append_right (by omega)] at h1
    rw [List.getElem?_append_right (by rw [← h.1]; omega), ← h.1] at h2
    exact h'.2 _ e x h1 h2⟩
theorem DatO.take {B : Nat} {w : World} {v : Value} {E : List Ec} {L : List En} (h : DatO B w v E L) (k : Nat) : DatO B w v (E.take k) (L.take k) :=
  ⟨by rw [List.length_take, List.length_take, h.1], fun j e x h1 h2 => by
    have hj : j < k := by
      have := (List.getElem?_eq_some_iff.1 h1).1
      rw [List.length_take] at this
      omega
    rw [List.getElem?_take_of_lt hj] at h1 h2
    exact h.2 j e x h1 h2⟩
theorem DatO.drop {B : Nat} {w : World} {v : Value} {E : List Ec} {L : List En} (h : DatO B w v E L) (k : Nat) : DatO B w v (E.drop k) (L.drop k) :=
  ⟨by rw [List.length_drop, List.length_drop, h.1], fun j e x h1 h2 => by
    rw [List.getElem?_drop] at h1 h2
    exact h.2 _ e x h1 h2⟩
theorem DatO.nil (B : Nat) (w : World) (v : Value) : DatO B w v [] [] := ⟨rfl, by simp⟩
theorem DatO.mem {B : Nat} {w : World} {v : Value} {E : List Ec} {L : List En} (h : DatO B w v E L) {e : Ec} (he : e ∈ E) : ∃ x, Own B w (.slice e.p e.n e.c) x ∧ Far e v := by
  obtain ⟨k, hk⟩ := List.mem_iff_getElem?.1 he
  obtain ⟨_, _, ho, hf, _⟩ := h.2 k e _ hk (List.getElem?_eq_getElem (by rw [← h.1]; exact (List.getElem?_eq_some_iff.1 hk).1))
  exact ⟨_, ho, hf⟩
/-- Where an entry's data lies. -/
theorem DatO.far {B : Nat} {w : World} {v : Value} {E : List Ec} {L : List En} (h : DatO B w v E L) {e : Ec} (he : e ∈ E) : e.c = 0 ∨ ∃ k, (Value.slice e.p e.n e.c).ownBlock = some k ∧ B ≤ k ∧ k < w.heap.size := by
  obtain ⟨x, ho, _⟩ := h.mem he
  rcases ho.far with h0 | ⟨g, hp, h1, h2⟩
  · exact .inl h0
  · exact .inr ⟨g, by rw [hp]; rfl, h1, h2⟩
theorem DatO.pushes {B : Nat} {w w' : World} {v v' : Value} {E E' : List Ec} {L L' : List En} (h : DatO B w v E L) (h' : DatO B w v E' L') (hg : w.grownBy w' v.ownBlock) (he : v'.ownBlock = v.ownBlock ∨ v'.ownBlock = some w.heap.size) : DatO B w' v' (E ++ E') (L ++ L') := by
  have ha := h.app h'
  refine (ha.grown hg fun e he' => ?_).to fun e he' => ?_
  · obtain ⟨_, _, hf⟩ := ha.mem he'
    exact hf
  · rcases he with he | he
    · obtain ⟨_, _, hf⟩ := ha.mem he'
      unfold Far
      rw [he]
      exact hf
    · rcases ha.far he' with h0 | ⟨k, hk, _, hlt⟩
      · exact .inl h0
      · refine .inr fun k' hk' e2 => ?_
        rw [he] at e2
        rw [hk] at hk'
        injection hk' with hk'
        injection e2 with e2
        omega
/-- Data that was made from a world on lies apart from what was there. -/
theorem DatO.late {B B' : Nat} {w : World} {u v : Value} {E : List Ec} {L : List En} (h : DatO B' w u E L) (hB : B ≤ B') (hv : ∀ k, v.ownBlock = some k → k < B') : DatO B w v E L :=
  (h.to fun e he => by
    rcases h.far he with h0 | ⟨k, hk, h1, _⟩
    · exact .inl h0
    · refine .inr fun k' hk' e2 => ?_
      rw [hk] at hk'
      injection hk' with hk'
      have := hv _ e2
      omega).mono hB
/-- A ledger of the call's own, its row named. -/
structure LgRow (B : Nat) (w : World) (g : Nat) (x : Lg) (v : Value) (E : List Ec) : Prop where
  hB : B ≤ g
  c0 : w.cell? ⟨g, 0, none⟩ = some (.int .i64 x.ix)
  c1 : w.cell? ⟨g, 1, none⟩ = some (.int .i64 x.tm)
  c2 : w.cell? ⟨g, 2, none⟩ = some v
  own : OwnE B w v E
  dat : DatO B w v E x.l
  ne : v.ownBlock ≠ some g
  nd : ∀ e ∈ E, e.c = 0 ∨ (Value.slice e.p e.n e.c).ownBlock ≠ some g
  c3 : w.cell? ⟨g, 3, none⟩ = some (.bool true)
  fr : ∀ i, i < 4 → w.frozen? ⟨g, i, none⟩ = false
  ok : x.Ok
  few : x.l.length ≤ 100000
theorem LgOwn.row {B : Nat} {w : World} {g : Nat} {x : Lg} (h : LgOwn B w g x) : ∃ p n c E, LgRow B w g x (.slice p n c) E := by
  obtain ⟨p, n, c, E, h1, h2, h3, h4, h5⟩ := h.c2
  exact ⟨p, n, c, E, h.hB, h.c0, h.c1, h1, h2, h3, h4, h5, h.c3, h.fr, h.ok, h.few⟩
theorem LgRow.lg {B : Nat} {w : World} {g : Nat} {x : Lg} {v : Value} {E : List Ec} (h : LgRow B w g x v E) : LgOwn B w g x := by
  obtain ⟨p, n, c, rfl⟩ := h.own.ecs.sl
  exact ⟨h.hB, h.c0, h.c1, ⟨p, n, c, E, h.c2, h.own, h.dat, h.ne, h.nd⟩, h.c3, h.fr, h.ok, h.few⟩
theorem LgRow.below {B : Nat} {w w' : World} {g : Nat} {x : Lg} {v : Value} {E : List Ec} (h : LgRow B w g x v E) (hb : Below w.heap.size w w') : LgRow B w' g x v E := by
  have hg : g < w.heap.size := lt_of_cell h.c0
  exact ⟨h.hB, (hb.cell (lt_of_cell h.c0)).trans h.c0, (hb.cell (lt_of_cell h.c1)).trans h.c1, (hb.cell (lt_of_cell h.c2)).trans h.c2, h.own.below hb, h.dat.below hb, h.ne, h.nd, (hb.cell (lt_of_cell h.c3)).trans h.c3,
    fun i hi => (hb.frozen (p := ⟨g, i, none⟩) hg).trans (h.fr i hi), h.ok, h.few⟩
/-- Other entries, behind a change of the row alone. -/
theorem LgRow.swap {B : Nat} {w w1 : World} {g : Nat} {x : Lg} {v v' : Value} {E E' : List Ec} {L : List En} {row : Option Nat} (h : LgRow B w g x v E) (hg : w.grownBy w1 row) (hr : row ≠ some g)
    (hE : OwnE B w1 v' E') (hD : DatO B w1 v' E' L) (hne : v'.ownBlock ≠ some g) (hnd : ∀ e ∈ E', e.c = 0 ∨ (Value.slice e.p e.n e.c).ownBlock ≠ some g) (hok : (Lg.mk x.ix x.tm L).Ok) (hfew : L.length ≤ 100000) :
    LgRow B (w1.setCell ⟨g, 2, none⟩ v') g ⟨x.ix, x.tm, L⟩ v' E' := by
  have hgl : g < w.heap.size := lt_of_cell h.c0
  have hb := hg.block g hgl (fun e => hr e.symm)
  have hc : ∀ i, w1.cell? ⟨g, i, none⟩ = w.cell? ⟨g, i, none⟩ := fun i => by unfold World.cell?; simp only [hb]
  have hf : ∀ i, w1.frozen? ⟨g, i, none⟩ = w.frozen? ⟨g, i, none⟩ := fun i => by unfold World.frozen?; simp only [hb]
  have hs := grown_set w1 g 2 v'
  have ho : ∀ i, i ≠ 2 → (w1.setCell ⟨g, 2, none⟩ v').cell? ⟨g, i, none⟩ = w.cell? ⟨g, i, none⟩ := fun i hi => by
    rw [World.cell?_setCell_other _ _ _ _ (by simp <;> omega), hc]
  refine ⟨h.hB, (ho 0 (by omega)).trans h.c0, (ho 1 (by omega)).trans h.c1, World.cell?_setCell_same _ _ _ ((hc 2).trans h.c2), hE.grown hs (.inr hne), hD.grown hs fun e he => ?_, hne, hnd, (ho 3 (by omega)).trans h.c3, fun i hi => ?_, hok, hfew⟩
  · rcases hnd e he with h0 | h1
    · exact .inl h0
    · exact .inr fun k hk e2 => h1 (by rw [hk, e2])
  · rw [World.frozen?_setCell]
    exact (hf i).trans (h.fr i hi)
/-- Another base and other entries. -/
theorem LgRow.swap3 {B : Nat} {w w1 : World} {g : Nat} {x : Lg} {v v' : Value} {E E' : List Ec} {L : List En} {row : Option Nat} {i t : Int} (h : LgRow B w g x v E) (hg : w.grownBy w1 row) (hr : row ≠ some g)
    (hE : OwnE B w1 v' E') (hD : DatO B w1 v' E' L) (hne : v'.ownBlock ≠ some g) (hnd : ∀ e ∈ E', e.c = 0 ∨ (Value.slice e.p e.n e.c).ownBlock ≠ some g) (hok : (Lg.mk i t L).Ok) (hfew : L.length ≤ 100000) :
    LgRow B (((w1.setCell ⟨g, 0, none⟩ (.int .i64 i)).setCell ⟨g, 1, none⟩ (.int .i64 t)).setCell ⟨g, 2, none⟩ v') g ⟨i, t, L⟩ v' E' := by
  have hgl : g < w.heap.size := lt_of_cell h.c0
  have hb := hg.block g hgl (fun e => hr e.symm)
  have hc : ∀ i, w1.cell? ⟨g, i, none⟩ = w.cell? ⟨g, i, none⟩ := fun i => by unfold World.cell?; simp only [hb]
  have hf : ∀ i, w1.frozen? ⟨g, i, none⟩ = w.frozen? ⟨g, i, none⟩ := fun i => by unfold World.frozen?; simp only [hb]
  have hs := gtrans (gtrans (grown_set w1 g 0 (.int .i64 i)) (grown_set _ g 1 (.int .i64 t))) (grown_set _ g 2 v')
  have hst : ∀ (W : World) (j k : Nat) u, j ≠ k → (W.setCell ⟨g, j, none⟩ u).cell? ⟨g, k, none⟩ = W.cell? ⟨g, k, none⟩ := fun W j k u hjk => World.cell?_setCell_other _ _ _ _ (by simp <;> omega)
  refine ⟨h.hB, ?_, ?_, ?_, hE.grown hs (.inr hne), hD.grown hs fun e he => ?_, hne, hnd, ?_, fun i hi => ?_, hok, hfew⟩
  · rw [hst _ _ _ _ (by omega), hst _ _ _ _ (by omega)]
    exact World.cell?_setCell_same _ _ _ ((hc 0).trans h.c0)
  · rw [hst _ _ _ _ (by omega)]
    exact World.cell?_setCell_same _ _ _ (by rw [hst _ _ _ _ (by omega)]; exact (hc 1).trans h.c1)
  · exact World.cell?_setCell_same _ _ _ (by rw [hst _ _ _ _ (by omega), hst _ _ _ _ (by omega)]; exact (hc 2).trans h.c2)
  · rcases hnd e he with h0 | h1
    · exact .inl h0
    · exact .inr fun k hk e2 => h1 (by rw [hk, e2])
  · rw [hst _ _ _ _ (by omega), hst _ _ _ _ (by omega), hst _ _ _ _ (by omega)]
    exact (hc 3).trans h.c3
  · rw [World.frozen?_setCell, World.frozen?_setCell, World.frozen?_setCell]
    exact (hf i).trans (h.fr i hi)
/-- The block of a ledger's row. -/
def Rb (w : World) (g k : Nat) : Prop := ∃ p n c, w.cell? ⟨g, 2, none⟩ = some (.slice p n c) ∧ (Value.slice p n c).ownBlock = some k
/-- A ledger's row and data avoid a block. -/
def Av (w : World) (g A : Nat) : Prop := g ≠ A ∧ ∃ p n c E, w.cell? ⟨g, 2, none⟩ = some (.slice p n c) ∧ Ecs w (.slice p n c) E ∧ (Value.slice p n c).ownBlock ≠ some A ∧ ∀ e ∈ E, e.c = 0 ∨ (Value.slice e.p e.n e.c).ownBlock ≠ some A
theorem Av.below {w w' : World} {g A : Nat} (h : Av w g A) (hb : Below w.heap.size w w') : Av w' g A := by
  obtain ⟨h0, p, n, c, E, h1, h2, h3⟩ := h
  exact ⟨h0, p, n, c, E, (hb.cell (lt_of_cell h1)).trans h1, h2.below hb, h3⟩
/-- What a call of a ledger may change: its own block and its row's. -/
structure Fr (g : Nat) (w w' : World) : Prop where
  chg : Chg w w' (fun k => k = g ∨ Rb w g k)
  row : ∀ k, Rb w' g k → Rb w g k ∨ w.heap.size ≤ k
  av : ∀ A, A < w.heap.size → Av w g A → Av w' g A
theorem Fr.of_below {g : Nat} {w w' : World} (h : Below w.heap.size w w') (hg : g < w.heap.size) : Fr g w w' := ⟨Chg.of_below h _, fun k ⟨p, n, c, h1, h2⟩ => .inl ⟨p, n, c, (h.cell (p := ⟨g, 2, none⟩) hg).symm.trans h1, h2⟩, fun A _ ha => ha.below h⟩
theorem Av.step {w w' : World} {g A : Nat} {v v' : Value} {E E' : List Ec} (h : Av w g A) (hA : A < w.heap.size) (h2 : w.cell? ⟨g, 2, none⟩ = some v) (hE : Ecs w v E) (h2' : w'.cell? ⟨g, 2, none⟩ = some v') (hE' : Ecs w' v' E') (hr : v'.ownBlock = v.ownBlock ∨ ∀ k, v'.ownBlock = some k → w.heap.size ≤ k) (hd : ∀ e ∈ E', e ∈ E ∨ e.c = 0 ∨ ∃ k, (Value.slice e.p e.n e.c).ownBlock = some k ∧ w.heap.size ≤ k) : Av w' g A := by
  obtain ⟨h0, p, n, c, E1, h1, hE1, h3, h4⟩ := h
  rw [h2] at h1
  injection h1 with h1
  subst h1
  have hEE := hE.one hE1
  subst hEE
  obtain ⟨p', n', c', rfl⟩ := hE'.sl
  refine ⟨h0, p', n', c', E', h2', hE', ?_, fun e he => ?_⟩
  · rcases hr with hr | hr
    · rw [hr]
      exact h3
    · intro e
      have := hr _ e
      omega
  · rcases hd e he with h5 | h5 | ⟨k, h5, h6⟩
    · exact h4 e h5
    · exact .inl h5
    · refine .inr fun e2 => ?_
      rw [h5] at e2
      injection e2 with e2
      omega
theorem LgRow.rb {B : Nat} {w : World} {g : Nat} {x : Lg} {v : Value} {E : List Ec} (h : LgRow B w g x v E) {k : Nat} : Rb w g k ↔ v.ownBlock = some k := by
  obtain ⟨p, n, c, rfl⟩ := h.own.ecs.sl
  refine ⟨fun ⟨p', n', c', h1, h2⟩ => ?_, fun hk => ⟨p, n, c, h.c2, hk⟩⟩
  have := h.c2.symm.trans h1
  injection this with this
  rw [this]
  exact h2
theorem LgOwn.rb_lt {B : Nat} {w : World} {g : Nat} {x : Lg} (h : LgOwn B w g x) {k : Nat} (hk : k = g ∨ Rb w g k) : B ≤ k ∧ k < w.heap.size := by
  obtain ⟨p, n, c, E, hr⟩ := h.row
  rcases hk with rfl | hk
  · exact ⟨h.hB, lt_of_cell h.c0⟩
  · exact hr.own.lt k (hr.rb.1 hk)
theorem LgOwn.fr_below {B : Nat} {w w' : World} {g : Nat} {x : Lg} (h : LgOwn B w g x) (hf : Fr g w w') : Below B w w' :=
  ⟨hf.chg.os, hf.chg.tape, hf.chg.output, hf.chg.size, fun k hk => by
    by_cases hl : k < w.heap.size
    · exact hf.chg.block k hl fun h1 => by have := (h.rb_lt h1).1; omega
    · exfalso
      have := h.hB
      have : g < w.heap.size := lt_of_cell h.c0
      omega⟩
/-- A ledger stands where nothing of its own changes. -/
theorem LgOwn.window {B : Nat} {w w' : World} {g : Nat} {x : Lg} (h : LgOwn B w g x) (hs : w.heap.size ≤ w'.heap.size) (hk : ∀ k, B ≤ k → k < w.heap.size → w'.heap[k]? = w.heap[k]?) : LgOwn B w' g x := by
  obtain ⟨p, n, c, E, hr⟩ := h.row
  have hcell : ∀ {k i : Nat} {u : Value}, B ≤ k → w.cell? ⟨k, i, none⟩ = some u → w'.cell? ⟨k, i, none⟩ = some u := fun {k i u} hB hc => (World.cell?_of_block (hk k hB (lt_of_cell hc))).trans hc
  have hg : g < w.heap.size := lt_of_cell h.c0
  have hgb := hk g h.hB hg
  have hE : OwnE B w' (.slice p n c) E := by
    obtain ⟨hl, ⟨e, h0⟩ | ⟨g', cap, cur, e, hB, hh, hr2⟩⟩ := hr.own
    · exact ⟨hl, .inl ⟨e, h0⟩⟩
    · refine ⟨hl, .inr ⟨g', cap, cur, e, hB, (hk g' hB ?_).trans hh, hr2⟩⟩
      exact (Array.getElem?_eq_some_iff.1 hh).1
  have hD : DatO B w' (.slice p n c) E x.l := ⟨hr.dat.1, fun k e y h1 h2 => by
    obtain ⟨a, b, ho, f, d⟩ := hr.dat.2 k e y h1 h2
    refine ⟨a, b, ?_, f, d⟩
    rcases ho with ⟨e1, e2⟩ | ⟨gb, cb, e1, hB, hl, hm, hc, hs2, hf⟩
    · exact .inl ⟨e1, e2⟩
    · by_cases h0 : cb = 0
      · subst h0
        exact .inr ⟨gb, 0, e1, hB, hl, hm, fun i y hy => by have := (List.getElem?_eq_some_iff.1 hy).1; omega, fun i hi => by omega, fun i hi => by omega⟩
      · obtain ⟨u, hu⟩ := Option.isSome_iff_exists.1 (hs2 0 (by omega))
        have hbb := hk gb hB (lt_of_cell hu)
        have q1 : ∀ i, w'.cell? ⟨gb, i, none⟩ = w.cell? ⟨gb, i, none⟩ := fun i => by unfold World.cell?; simp only [hbb]
        have q2 : ∀ i, w'.frozen? ⟨gb, i, none⟩ = w.frozen? ⟨gb, i, none⟩ := fun i => by unfold World.frozen?; simp only [hbb]
        exact .inr ⟨gb, cb, e1, hB, hl, hm, fun i y hy => by rw [q1]; exact hc i y hy, fun i hi => by rw [q1]; exact hs2 i hi, fun i hi => by rw [q2]; exact hf i hi⟩⟩
  refine ⟨h.hB, hcell h.hB h.c0, hcell h.hB h.c1, ⟨p, n, c, E, hcell h.hB hr.c2, hE, hD, hr.ne, hr.nd⟩, hcell h.hB h.c3, fun i hi => ?_, h.ok, h.few⟩
  rw [← h.fr i hi]
  unfold World.frozen?
  simp only [hgb]
/-- The frame of a row that grew. -/
theorem Fr.push {g : Nat} {w w5 V9 : World} {p p9 : Option Addr} {n c n9 c9 : Nat} {E E9 : List Ec} (hE : Ecs w (.slice p n c) E) (hE9 : Ecs (V9.setCell ⟨g, 2, none⟩ (.slice p9 n9 c9)) (.slice p9 n9 c9) E9) (hd : ∀ e ∈ E9, e ∈ E ∨ e.c = 0 ∨ ∃ k, (Value.slice e.p e.n e.c).ownBlock = some k ∧ w.heap.size ≤ k) (h2 : w.cell? ⟨g, 2, none⟩ = some (.slice p n c)) (hb : Below w.heap.size w w5) (hg9 : w5.grownBy V9 (Value.slice p n c).ownBlock) (hne : (Value.slice p n c).ownBlock ≠ some g)
    (he : (Value.slice p9 n9 c9).ownBlock = (Value.slice p n c).ownBlock ∨ (Value.slice p9 n9 c9).ownBlock = some w5.heap.size) : Fr g w (V9.setCell ⟨g, 2, none⟩ (.slice p9 n9 c9)) := by
  have h5 : w5.cell? ⟨g, 2, none⟩ = some (.slice p n c) := (hb.cell (lt_of_cell h2)).trans h2
  have h9 : V9.cell? ⟨g, 2, none⟩ = some (.slice p n c) := hg9.cell h5 (fun e => hne e.symm)
  refine ⟨?_, fun k ⟨p', n', c', h1, hk⟩ => ?_, fun A hA ha => ha.step hA h2 hE (World.cell?_setCell_same _ _ _ h9) hE9 (he.imp id fun h k hk => ?_) hd⟩
  · have h1 : Chg w V9 (fun k => k = g ∨ Rb w g k) := (Chg.of_below hb (fun k => k = g ∨ Rb w g k)).trans (Chg.of_grown hg9 (fun k => k = g ∨ Rb w g k) (fun k hk => .inl (.inr ⟨p, n, c, h2, hk⟩))) (fun k hk => .inl hk)
    exact h1.set _ (.inl (.inl rfl))
  · rw [World.cell?_setCell_same _ _ _ h9] at h1
    injection h1 with h1
    rw [← h1] at hk
    rcases he with he | he
    · exact .inl ⟨p, n, c, h2, by rw [← he]; exact hk⟩
    · rw [he] at hk
      injection hk with hk
      exact .inr (by rw [← hk]; exact hb.size)
  · rw [h] at hk
    injection hk with hk
    rw [← hk]
    exact hb.size
end Go.Proofs.Ytmalhdiholblgaa
