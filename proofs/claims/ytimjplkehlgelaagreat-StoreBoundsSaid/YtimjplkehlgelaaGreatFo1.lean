/- Words on bytes and numbers, out of several texts made one. -/
import Derived.Test.YtimjplkehlgelaaGreatSp1
import Derived.Maps.OwnSet
import Derived.Maps.RangeWalk
import Derived.Maps.Ext
/- A bag of spans by their IDs: plainly (as they came, none of an ID twice), and in memory. -/
namespace Go.Proofs.YtimjplkehlgelaaGreat
set_option linter.unusedVariables false
set_option linter.unusedSimpArgs false
open Go.RowKit

/-- The span of an ID. -/
def fnd (L : List Sp) (k : Int) : Option Sp := L.find? fun x => x.i == k
theorem fnd_mem {L : List Sp} {k : Int} {x : Sp} (h : fnd L k = some x) : x ∈ L ∧ x.i = k := by
  have h1 := List.find?_some h
  exact ⟨List.mem_of_find?_eq_some h, by simpa using h1⟩
theorem fnd_none {L : List Sp} {k : Int} : fnd L k = none ↔ ∀ x ∈ L, x.i ≠ k := by
  unfold fnd
  rw [List.find?_eq_none]
  simp
theorem fnd_add (L : List Sp) (x : Sp) (k : Int) : fnd (L ++ [x]) k = (fnd L k).or (if x.i = k then some x else none) := by
  unfold fnd
  rw [List.find?_append]
  congr 1
  by_cases h : x.i = k <;> simp [h]
theorem fnd_of {L : List Sp} (h : L.Pairwise fun x y => x.i ≠ y.i) {x : Sp} (hx : x ∈ L) : fnd L x.i = some x := by
  induction L with
  | nil => simp at hx
  | cons y r ih =>
    rw [List.pairwise_cons] at h
    unfold fnd
    rw [List.find?_cons]
    rcases List.mem_cons.1 hx with rfl | hx
    · simp
    · have := h.1 x hx
      simp only [beq_eq_false_iff_ne.2 this]
      exact ih h.2 hx

/-- How an element reads: as itself. -/
def heldA : Value → Option (DataW Value × List MemPlace)
  | .agg a => some (.held (.agg a), [])
  | _ => none
theorem heldA_inv {v u : Value} {ps : List MemPlace} (h : heldA v = some (.held u, ps)) : v = u := by
  cases v <;> simp [heldA] at h
  exact h.1

theorem intK : Maps.Keyed Tryz.prog 3 := Maps.int_keyed Tryz.underlying3
theorem keyI {k : Int} (hk : (Lit.int .i64 k).wf = true) : keyOf Tryz.prog 3 (.int .i64 k) = some (.int .i64 k) := Maps.keyOf_int_mk Tryz.underlying3 hk
theorem isKeyI (k : Int) : WideAt.IsKeyLit (.int .i64 k) := trivial
/-- The zero span. -/
def sp0 : Sp := ⟨0, 0, 0, 0, 0, ByteArray.empty⟩
theorem zeroSp (w : World) : (zeroValue 38).run Tryz.prog w = .ok (spV sp0) w := by kernel_rfl

/-- The bag of the map's block b has the spans L. -/
structure BagIs (w : World) (b : Nat) (L : List Sp) (D : DataW Value) : Prop where
  map : w.ownsMap Tryz.prog 3 heldA b L.length D
  size : Maps.size D = L.length
  keys : ∀ k, Maps.has D (.int .i64 k) = (fnd L k).isSome
  vals : ∀ k x, fnd L k = some x → ∀ z, D.atKey (.int .i64 k) z = .held (spV x)
  ids : L.Pairwise fun x y => x.i ≠ y.i

theorem bmap_tight {H : Type} {P : Program} {k : TypeId} {R : Value → Option (DataW H × List MemPlace)} {w : World} {b n : Nat} {D : DataW H} (h : w.ownsMap P k R b n D) : w.ownsMap P k R b (Maps.size D) D := by
  obtain ⟨es, clock, hb, F, hs, rfl⟩ := h
  exact ⟨es, clock, hb, F, by simp [Maps.size, length_sorted], rfl⟩

theorem BagIs.below {w w' : World} {b : Nat} {L : List Sp} {D : DataW Value} (h : BagIs w b L D) (hb : Below w.heap.size w w') : BagIs w' b L D := by
  have hlt := h.map.lt
  obtain ⟨es, clock, h1, rest⟩ := h.map
  exact ⟨⟨es, clock, (hb.block b hlt).trans h1, rest⟩, h.size, h.keys, h.vals, h.ids⟩
theorem BagIs.drewN {w : World} {b : Nat} {L : List Sp} {D : DataW Value} (h : BagIs w b L D) (q : Nat) : BagIs (w.drewN q) b L D := ⟨h.map, h.size, h.keys, h.vals, h.ids⟩
theorem BagIs.grown {w w' : World} {b : Nat} {L : List Sp} {D : DataW Value} {row : Option Nat} (h : BagIs w b L D) (hg : w.grownBy w' row) (hne : row ≠ some b) : BagIs w' b L D :=
  ⟨h.map.kept hg fun e => hne e.symm, h.size, h.keys, h.vals, h.ids⟩

/-- 's, ok := b[id]' and 'b[id]'. -/
theorem BagIs.look {w : World} {b : Nat} {L : List Sp} {D : DataW Value} (h : BagIs w b L D) {k : Int} (hk : (Lit.int .i64 k).wf = true) (q : Nat) :
    (Instr.lookup 103 (.map (some b)) (.int .i64 k) true).run Tryz.prog (w.drewN q) = .ok (.tuple #[spV ((fnd L k).getD sp0), .bool (fnd L k).isSome]) (w.drewN q) ∧ (Instr.lookup 103 (.map (some b)) (.int .i64 k) false).run Tryz.prog (w.drewN q) = .ok (spV ((fnd L k).getD sp0)) (w.drewN q) := by
  have hmap : (w.drewN q).ownsMap Tryz.prog 3 heldA b L.length D := h.map
  obtain ⟨v, ps, hrun, hv⟩ := hmap.look_ok intK Tryz.underlying103 (zeroSp (w.drewN q)) (zd := .held (spV sp0)) (zp := []) rfl (keyI hk)
  obtain ⟨v2, ps2, hrun2, hv2⟩ := hmap.lookup intK Tryz.underlying103 (zeroSp (w.drewN q)) (zd := .held (spV sp0)) (zp := []) rfl (keyI hk)
  cases hf : fnd L k with
  | none =>
    have hh : Maps.has D (.int .i64 k) = false := by rw [h.keys, hf]; rfl
    rw [Maps.atKey_of_not_has hh] at hv hv2
    obtain rfl := heldA_inv hv
    obtain rfl := heldA_inv hv2
    rw [hh] at hrun
    exact ⟨hrun, hrun2⟩
  | some x =>
    have hh : Maps.has D (.int .i64 k) = true := by rw [h.keys, hf]; rfl
    rw [h.vals k x hf] at hv hv2
    obtain rfl := heldA_inv hv
    obtain rfl := heldA_inv hv2
    rw [hh] at hrun
    exact ⟨hrun, hrun2⟩

set_option maxRecDepth 20000 in
/-- 'b[s.ID] = s', none of that ID there. -/
theorem BagIs.store {w : World} {b : Nat} {L : List Sp} {D : DataW Value} (h : BagIs w b L D) {x : Sp} (hk : (Lit.int .i64 x.i).wf = true) (hn : fnd L x.i = none) (hL : L.length < maxLen) :
    ∃ w', (Instr.mapUpdate 103 (.map (some b)) (.int .i64 x.i) (spV x)).run Tryz.prog w = .ok () w' ∧ w.grownBy w' (some b) ∧ BagIs w' b (L ++ [x]) (D.put (.int .i64 x.i) (.held (spV x))) := by
  obtain ⟨w', hrun, hm', hg⟩ := h.map.update intK Tryz.underlying103 hL (keyI hk) (d := .held (spV x)) (ps := []) (val := spV x) rfl
  have htidy := h.map.tidy intK
  have hsz : Maps.size (D.put (.int .i64 x.i) (.held (spV x))) = (L ++ [x]).length := by
    rw [Maps.size_put htidy, h.keys, hn, h.size]
    simp
  refine ⟨w', hrun, hg, ⟨by rw [← hsz]; exact bmap_tight hm', hsz, fun k => ?_, fun k y hy => ?_, ?_⟩⟩
  · rw [fnd_add]
    by_cases e : x.i = k
    · subst e
      rw [if_pos rfl, Maps.has_put_same h.map.isMap (isKeyI _)]
      cases fnd L x.i <;> rfl
    · rw [if_neg e, Maps.has_put_other (fun h => e (by injection h with _ h; exact h.symm)), h.keys]
      cases fnd L k <;> rfl
  · rw [fnd_add] at hy
    by_cases e : x.i = k
    · subst e
      rw [hn, if_pos rfl] at hy
      simp at hy
      subst hy
      intro z
      rw [Maps.atKey_put_same h.map.isMap (isKeyI _)]
    · rw [if_neg e] at hy
      intro z
      rw [Maps.atKey_put_other (fun h => e (by injection h with _ h; exact h.symm))]
      refine h.vals k y ?_ z
      cases hf : fnd L k with
      | none => rw [hf] at hy; simp at hy
      | some u => rw [hf] at hy; simpa using hy
  · rw [List.pairwise_append]
    refine ⟨h.ids, List.pairwise_singleton _ _, fun a ha y hy => ?_⟩
    simp only [List.mem_cons, List.not_mem_nil, or_false] at hy
    subst hy
    exact fnd_none.1 hn a ha

/-- A bag just made. -/
theorem bag_new (w : World) : BagIs (w.alloc (.map #[] 0)) w.heap.size [] (.map []) :=
  ⟨World.ownsMap_made w _ _ _, rfl, fun k => rfl, fun k x h => by simp [fnd] at h, List.Pairwise.nil⟩
end Go.Proofs.YtimjplkehlgelaaGreat
/- Whether a span would stand above itself. -/
namespace Go.Proofs.YtimjplkehlgelaaGreat
set_option linter.unusedVariables false
set_option linter.unusedSimpArgs false
open Go.RowKit

/-- From a place in a bag up, at most n steps: does one stand beneath id? -/
def upw (L : List Sp) (id : Int) : Nat → Int → Bool
  | 0, _ => false
  | n + 1, a => match fnd L a with
    | none => false
    | some u => if u.p = id then true else upw L id n u.p
/-- No span stands above itself: each one's rank is above its parent's. -/
def Ranks (L : List Sp) (r : Int → Nat) : Prop := ∀ x ∈ L, ∀ u, fnd L x.p = some u → r u.i < r x.i
theorem upw_more {L : List Sp} {r : Int → Nat} (hr : Ranks L r) (id : Int) : ∀ (n m : Nat) (a : Int), (∀ u, fnd L a = some u → r u.i < n ∧ r u.i < m) → upw L id n a = upw L id m a := by
  intro n
  induction n with
  | zero =>
    intro m a h
    cases m with
    | zero => rfl
    | succ m =>
      unfold upw
      cases hf : fnd L a with
      | none => rfl
      | some u => have := (h u hf).1; omega
  | succ n ih =>
    intro m a h
    cases m with
    | zero =>
      unfold upw
      cases hf : fnd L a with
      | none => rfl
      | some u => have := (h u hf).2; omega
    | succ m =>
      unfold upw
      cases hf : fnd L a with
      | none => rfl
      | some u =>
        simp only
        split
        · rfl
        · refine ih m u.p fun v hv => ?_
          have h1 := h u hf
          have h2 := hr u (fnd_mem hf).1 v hv
          omega

/-- A place's rank. -/
def rk (L : List Sp) (r : Int → Nat) (a : Int) : Nat := match fnd L a with
  | none => 0
  | some u => r u.i + 1
/-- From a place in a bag up: does one stand beneath id? -/
def ups (L : List Sp) (r : Int → Nat) (id a : Int) : Bool := upw L id (rk L r a) a
theorem rk_some {L : List Sp} {r : Int → Nat} {a : Int} {u : Sp} (h : fnd L a = some u) : rk L r a = r u.i + 1 := by unfold rk; rw [h]
theorem rk_none {L : List Sp} {r : Int → Nat} {a : Int} (h : fnd L a = none) : rk L r a = 0 := by unfold rk; rw [h]
theorem ups_out {L : List Sp} {r : Int → Nat} {id a : Int} (h : fnd L a = none) : ups L r id a = false := by
  unfold ups
  rw [rk_none h]
  rfl
theorem ups_hit {L : List Sp} {r : Int → Nat} {id a : Int} {u : Sp} (h : fnd L a = some u) (hu : u.p = id) : ups L r id a = true := by
  unfold ups
  rw [rk_some h]
  unfold upw
  rw [h]
  simp [hu]
theorem ups_on {L : List Sp} {r : Int → Nat} (hr : Ranks L r) {id a : Int} {u : Sp} (h : fnd L a = some u) (hu : u.p ≠ id) : ups L r id a = ups L r id u.p := by
  unfold ups
  rw [rk_some h]
  conv => lhs; unfold upw
  rw [h]
  simp only [if_neg hu]
  refine upw_more hr id _ _ _ fun v hv => ?_
  have := hr u (fnd_mem h).1 v hv
  rw [rk_some hv]
  omega

/-- A loop's measure: the rank of the span that stands in a box, if there is one. -/
def rkOf (r : Int → Nat) (v5 v6 : Value) (wr : World) : Nat := match v6 with
  | .bool true => match v5 with
    | .pointer (some ad) => match wr.cell? ⟨ad.block, 1, none⟩ with
      | some (.int _ n) => r n + 1
      | _ => 0
    | _ => 0
  | _ => 0
theorem rkOf_some {r : Int → Nat} {g : Nat} {wr : World} {u : Sp} (h : SpAt wr g 0 u) : rkOf r (.pointer (some ⟨g, 0, none⟩)) (.bool true) wr = r u.i + 1 := by
  unfold rkOf
  simp only [h.c1]
theorem rkOf_none {r : Int → Nat} {v : Value} {wr : World} : rkOf r v (.bool false) wr = 0 := rfl

set_option maxRecDepth 200000 in
set_option maxHeartbeats 1000000 in
theorem above_any {w : World} {b : Nat} {L : List Sp} {D : DataW Value} (h : BagIs w b L D) {r : Int → Nat} (hr : Ranks L r) (hw : ∀ x ∈ L, (Lit.int .i64 x.p).wf = true) {x : Sp} (hx : (Lit.int .i64 x.p).wf = true) : Calls Tryz.prog 109 #[.map (some b), spV x] w fun e w' => e = .returned (.bool (ups L r x.i x.p)) ∧ Below w.heap.size w w' := by
  have HR := hide hr
  have HW := hide hw
  have hnew := spAt_new w x
  obtain ⟨t, i, p, s, e, nm⟩ := x
  have b1 := (Below.refl w.heap.size w).alloc (Nat.le_refl _) (.cells #[.int .i64 t, .int .i64 i, .int .i64 p, .int .i64 s, .int .i64 e, .string nm] 38)
  unfold spV at *
  dsimp only at *
  obtain ⟨X, hX⟩ : ∃ X, w.alloc (.cells #[.int .i64 t, .int .i64 i, .int .i64 p, .int .i64 s, .int .i64 e, .string nm] 38) = X := ⟨_, rfl⟩
  rw [hX] at hnew b1
  have hb1 : BagIs X b L D := by rw [← hX]; exact h.grown (World.grownBy_alloc w _ none) (by simp)
  have HS := hide hnew
  have HB := hide hb1
  have HB1 := hide b1
  have l1 := (hb1.look hx 0).1
  obtain ⟨u, hu⟩ : ∃ u, (fnd L p).getD sp0 = u := ⟨_, rfl⟩
  obtain ⟨th, hth⟩ : ∃ th, (fnd L p).isSome = th := ⟨_, rfl⟩
  rw [hu, hth] at l1
  have l1' : (Instr.lookup 103 (.map (some b)) (.int .i64 p) true).run Tryz.prog X = .ok (.tuple #[spV u, .bool th]) X := l1
  have c2 := hnew.c2
  have HU := hide (And.intro hu hth)
  clear h hr hw hnew b1 hb1 l1 hx hu hth
  unfold spV at l1'
  dsimp only at *
  go_enter Tryz.func109, Tryz.ntmps109
  go_wp2_with fail
  go_loopw [5, 6] (fun v5 v6 wr => ∃ (g : Nat) (a : Int) (th : Bool), v5 = .pointer (some ⟨g, 0, none⟩) ∧ v6 = .bool th ∧ Hid ((fnd L a).isSome = th ∧ SpAt wr g 0 ((fnd L a).getD sp0) ∧ SpAt wr w.heap.size 0 ⟨t, i, p, s, e, nm⟩ ∧ BagIs wr b L D ∧ Below w.heap.size w wr ∧ w.heap.size < g ∧ ups L r i a = ups L r i p)) (fun v5 v6 wr => rkOf r v5 v6 wr)
  case atStart =>
    refine ⟨X.heap.size, p, th, rfl, rfl, hide ⟨HU.out.2, ?_, ?_, HB.out.grown (World.grownBy_alloc X _ none) (by simp), HB1.out.alloc HB1.out.size _, ?_, rfl⟩⟩
    · rw [HU.out.1]
      exact spAt_new X u
    · exact HS.out.grown (World.grownBy_alloc X _ none) (by simp)
    · have := HS.out.lt
      exact this
  case round =>
    obtain ⟨g, a, th2, rfl, rfl, hrel⟩ := hrel
    obtain ⟨hth2, hg, hx, hbag, hbel, hgw, hups⟩ := hrel.out
    cases th2
    · have hf : fnd L a = none := by simpa using hth2
      have hres : ups L r i p = false := by rw [← hups]; exact ups_out hf
      have HRES := hide hres
      have HBE := hide hbel
      clear hres hf hth2 hg hx hbag hbel hgw hups hrel
      go_wp2
      go_ret
      exact ⟨by rw [HRES.out]; rfl, HBE.out⟩
    · obtain ⟨u2, hf⟩ : ∃ u2, fnd L a = some u2 := Option.isSome_iff_exists.1 hth2
      rw [hf, Option.getD_some] at hg
      by_cases hp : u2.p = i
      · have hres : ups L r i p = true := by rw [← hups]; exact ups_hit hf hp
        have HRES := hide hres
        have HBE := hide hbel
        have d2 := hg.c2
        have e1 := hx.c1
        dsimp only at e1
        rw [hp] at d2
        clear hres hf hth2 hg hx hbag hbel hgw hups hrel
        go_wp2
        go_ret
        exact ⟨by rw [HRES.out]; rfl, HBE.out⟩
      · have hup : ups L r i u2.p = ups L r i p := by rw [← hups]; exact (ups_on HR.out hf hp).symm
        have hz := hbag.grown (World.grownBy_alloc wr (.cells #[.int .i64 u2.t, .int .i64 u2.i, .int .i64 u2.p, .int .i64 u2.s, .int .i64 u2.e, .string u2.n] 38) none) (by simp)
        have l2 := (hz.look (HW.out u2 (fnd_mem hf).1) 0).1
        obtain ⟨v, hv⟩ : ∃ v, (fnd L u2.p).getD sp0 = v := ⟨_, rfl⟩
        obtain ⟨th3, hth3⟩ : ∃ th, (fnd L u2.p).isSome = th := ⟨_, rfl⟩
        rw [hv, hth3] at l2
        have l2' : (Instr.lookup 103 (.map (some b)) (.int .i64 u2.p) true).run Tryz.prog (wr.alloc (.cells #[.int .i64 u2.t, .int .i64 u2.i, .int .i64 u2.p, .int .i64 u2.s, .int .i64 u2.e, .string u2.n] 38)) = .ok (.tuple #[.agg #[.int .i64 v.t, .int .i64 v.i, .int .i64 v.p, .int .i64 v.s, .int .i64 v.e, .string v.n], .bool th3]) (wr.alloc (.cells #[.int .i64 u2.t, .int .i64 u2.i, .int .i64 u2.p, .int .i64 u2.s, .int .i64 u2.e, .string u2.n] 38)) := l2
        obtain ⟨d0, d1, d2, d3, d4, d5⟩ := hg.z
        have e1 := hx.c1
        dsimp only at e1
        have HV := hide (And.intro hv hth3)
        have HF := hide hf
        have HP := hide hp
        have HUP := hide hup
        have HG := hide hg
        have HX2 := hide (And.intro hx (And.intro hbag (And.intro hbel hgw)))
        have hpi : (u2.p == i) = false := beq_eq_false_iff_ne.2 hp
        clear l2 hz hup hv hth3 hf hth2 hg hx hbag hbel hgw hups hrel
        go_wp2
        refine ⟨⟨wr.heap.size, u2.p, th3, rfl, rfl, hide ⟨HV.out.2, ?_, HX2.out.1.grown (World.grownBy_alloc wr _ none) (by simp), HX2.out.2.1.grown (World.grownBy_alloc wr _ none) (by simp), HX2.out.2.2.1.alloc HX2.out.2.2.1.size _, ?_, HUP.out⟩⟩, ?_⟩
        · rw [HV.out.1]
          exact spAt_new wr v
        · exact HX2.out.1.lt
        · rw [rkOf_some HG.out]
          cases th3 with
          | false => rw [rkOf_none]; omega
          | true =>
            obtain ⟨v', hv'⟩ : ∃ v', fnd L u2.p = some v' := Option.isSome_iff_exists.1 HV.out.2
            have hvv := HV.out.1
            rw [hv', Option.getD_some] at hvv
            subst hvv
            rw [rkOf_some (spAt_new wr v')]
            have := HR.out u2 (fnd_mem HF.out).1 v' hv'
            omega
end Go.Proofs.YtimjplkehlgelaaGreat
/- A span that would stand above itself, with no word of ranks; and what adding one that does not keeps. -/
namespace Go.Proofs.YtimjplkehlgelaaGreat
set_option linter.unusedVariables false
set_option linter.unusedSimpArgs false
open Go.RowKit

/-- From a place up, does one stand beneath id? -/
noncomputable def ring (L : List Sp) (id a : Int) : Bool := by
  classical exact decide (∃ n, upw L id n a = true)
theorem ring_iff {L : List Sp} {id a : Int} : ring L id a = true ↔ ∃ n, upw L id n a = true := by
  unfold ring
  simp
theorem upw_mono {L : List Sp} {id : Int} : ∀ {n m : Nat} {a : Int}, n ≤ m → upw L id n a = true → upw L id m a = true
  | 0, _, _, _, h => by cases h
  | n + 1, 0, _, hm, _ => by omega
  | n + 1, m + 1, a, hm, h => by
    unfold upw at h ⊢
    cases hf : fnd L a with
    | none => rw [hf] at h; exact h
    | some u =>
      rw [hf] at h
      simp only at h ⊢
      by_cases hp : u.p = id
      · rw [if_pos hp]
      · rw [if_neg hp] at h ⊢
        exact upw_mono (by omega) h
theorem ups_ring {L : List Sp} {r : Int → Nat} (hr : Ranks L r) (id a : Int) : ups L r id a = ring L id a := by
  have key : ∀ m, rk L r a ≤ m → upw L id (rk L r a) a = upw L id m a := fun m hm => upw_more hr id _ _ _ fun u hu => by
    rw [rk_some hu] at *
    omega
  rw [Bool.eq_iff_iff, ring_iff]
  constructor
  · intro h
    exact ⟨_, h⟩
  · rintro ⟨n, hn⟩
    unfold ups
    rw [key (max n (rk L r a)) (by omega)]
    exact upw_mono (by omega) hn
theorem ring_out {L : List Sp} {id a : Int} (h : fnd L a = none) : ring L id a = false := by
  rw [Bool.eq_false_iff, ne_eq, ring_iff]
  rintro ⟨n, hn⟩
  cases n with
  | zero => cases hn
  | succ n => unfold upw at hn; rw [h] at hn; cases hn
theorem ring_hit {L : List Sp} {id a : Int} {u : Sp} (h : fnd L a = some u) (hu : u.p = id) : ring L id a = true := by
  rw [ring_iff]
  refine ⟨1, ?_⟩
  unfold upw
  rw [h]
  simp [hu]
theorem ring_on {L : List Sp} {id a : Int} {u : Sp} (h : fnd L a = some u) (hu : u.p ≠ id) : ring L id a = ring L id u.p := by
  rw [Bool.eq_iff_iff, ring_iff, ring_iff]
  constructor
  · rintro ⟨n, hn⟩
    cases n with
    | zero => cases hn
    | succ n =>
      unfold upw at hn
      rw [h] at hn
      simp only [if_neg hu] at hn
      exact ⟨n, hn⟩
  · rintro ⟨n, hn⟩
    refine ⟨n + 1, ?_⟩
    unfold upw
    rw [h]
    simp only [if_neg hu]
    exact hn

/-- No span stands above itself. -/
def NoRing (L : List Sp) : Prop := ∃ r, Ranks L r
theorem noRing_nil : NoRing [] := ⟨fun _ => 0, fun x hx => by simp at hx⟩
theorem noRing_add {L : List Sp} (hid : L.Pairwise fun x y => x.i ≠ y.i) (h : NoRing L) {x : Sp} (hn : fnd L x.i = none) (hr : ring L x.i x.p = false) (hp : x.p ≠ x.i) : NoRing (L ++ [x]) := by
  obtain ⟨r, hR⟩ := h
  refine ⟨fun k => if k = x.i then rk L r x.p else if ring L x.i k = true then r k + (rk L r x.p + 1) else r k, fun y hy u hu => ?_⟩
  rw [fnd_add] at hu
  have ne_of : ∀ {k v}, fnd L k = some v → v.i ≠ x.i := fun {k v} hv => fnd_none.1 hn v (fnd_mem hv).1
  simp only
  rcases List.mem_append.1 hy with hy | hy
  · have hyi : y.i ≠ x.i := fnd_none.1 hn y hy
    have hfy := fnd_of hid hy
    rw [if_neg hyi]
    cases hf : fnd L y.p with
    | some v =>
      rw [hf] at hu
      simp only [Option.some_or, Option.some.injEq] at hu
      subst hu
      have hvi := ne_of hf
      have hvp := (fnd_mem hf).2
      rw [if_neg hvi]
      have hyp : y.p ≠ x.i := fun e => hvi (hvp.trans e)
      rw [ring_on hfy hyp, ← hvp]
      have := hR y hy v hf
      split <;> omega
    | none =>
      rw [hf] at hu
      simp only [Option.none_or] at hu
      by_cases e : x.i = y.p
      · rw [if_pos e] at hu
        injection hu with hu
        subst hu
        rw [if_pos rfl, if_pos (ring_hit hfy e.symm)]
        omega
      · rw [if_neg e] at hu
        cases hu
  · simp only [List.mem_cons, List.not_mem_nil, or_false] at hy
    subst hy
    rw [if_pos rfl]
    cases hf : fnd L y.p with
    | some v =>
      rw [hf] at hu
      simp only [Option.some_or, Option.some.injEq] at hu
      subst hu
      have hvi := ne_of hf
      have hvp := (fnd_mem hf).2
      rw [if_neg hvi, if_neg (by rw [hvp, hr]; simp), rk_some hf]
      omega
    | none =>
      rw [hf] at hu
      simp only [Option.none_or] at hu
      by_cases e : y.i = y.p
      · exact absurd e.symm hp
      · rw [if_neg e] at hu
        cases hu
end Go.Proofs.YtimjplkehlgelaaGreat
/- The document's ring: as many steps up as there are spans are enough. -/
namespace Go.Proofs.YtimjplkehlgelaaGreat
set_option linter.unusedVariables false
set_option linter.unusedSimpArgs false
open Go.RowKit

theorem filter_lt {α : Type} {p q : α → Bool} (h : ∀ x, p x = true → q x = true) : ∀ {l : List α} {u : α}, u ∈ l → q u = true → p u = false → (l.filter p).length < (l.filter q).length
  | x :: r, u, hu, hq, hp => by
    have hle : (r.filter p).length ≤ (r.filter q).length := by
      clear hu
      induction r with
      | nil => simp
      | cons y s ih =>
        rw [List.filter_cons, List.filter_cons]
        cases hpy : p y with
        | false => cases q y <;> simp <;> omega
        | true => rw [h y hpy]; simp; omega
    rw [List.filter_cons, List.filter_cons]
    rcases List.mem_cons.1 hu with rfl | hu
    · rw [hp, hq]
      simp
      omega
    · have ih := filter_lt h hu hq hp
      cases hpx : p x with
      | false => cases q x <;> simp <;> omega
      | true => rw [h x hpx]; simp; omega

/-- How many spans there are of a rank below k. -/
def cntB (L : List Sp) (r : Int → Nat) (k : Nat) : Nat := (L.filter fun x => decide (r x.i < k)).length
theorem cntB_lt {L : List Sp} {r : Int → Nat} {u : Sp} (hu : u ∈ L) {j k : Nat} (hj : j ≤ r u.i) (hk : r u.i < k) : cntB L r j < cntB L r k :=
  filter_lt (fun x hx => by rw [decide_eq_true_eq] at *; omega) hu (decide_eq_true hk) (decide_eq_false (by omega))

/-- The document's way up. -/
def loopR (L : List Sp) (id : Int) : Nat → Int → Bool
  | 0, a => a == id
  | n + 1, a => match fnd L a with
    | none => a == id
    | some u => if u.p = id then true else loopR L id n u.p
theorem loopR_ups {L : List Sp} {r : Int → Nat} (hr : Ranks L r) {id : Int} : ∀ (n : Nat) (a : Int), cntB L r (rk L r a) ≤ n → a ≠ id → loopR L id n a = ups L r id a := by
  intro n
  induction n with
  | zero =>
    intro a hn ha
    cases hf : fnd L a with
    | none => rw [ups_out hf]; unfold loopR; exact beq_eq_false_iff_ne.2 ha
    | some u =>
      rw [rk_some hf] at hn
      have := cntB_lt (r := r) (fnd_mem hf).1 (Nat.zero_le _) (show r u.i < r u.i + 1 by omega)
      omega
  | succ n ih =>
    intro a hn ha
    unfold loopR
    cases hf : fnd L a with
    | none => rw [ups_out hf]; exact beq_eq_false_iff_ne.2 ha
    | some u =>
      simp only
      by_cases hp : u.p = id
      · rw [if_pos hp, ups_hit hf hp]
      · rw [if_neg hp, ups_on hr hf hp]
        refine ih u.p ?_ hp
        rw [rk_some hf] at hn
        have hle : rk L r u.p ≤ r u.i := by
          cases hv : fnd L u.p with
          | none => rw [rk_none hv]; omega
          | some v => rw [rk_some hv]; have := hr u (fnd_mem hf).1 v hv; omega
        have := cntB_lt (r := r) (fnd_mem hf).1 hle (show r u.i < r u.i + 1 by omega)
        omega
theorem loopR_ring {L : List Sp} (hr : NoRing L) {id a : Int} (ha : a ≠ id) : loopR L id L.length a = ring L id a := by
  obtain ⟨r, hr⟩ := hr
  rw [← ups_ring hr]
  exact loopR_ups hr _ _ (List.length_filter_le _ _) ha
end Go.Proofs.YtimjplkehlgelaaGreat
