/- Whether a span would stand above itself. -/
import Derived.Test.YtbbdijnkgkabbaaFMem
import Derived.Test.YtbbdijnkgkabbaaSpCheck
namespace Go.Proofs.Ytbbdijnkgkabbaa
set_option linter.unusedVariables false
set_option linter.unusedSimpArgs false
open Go.RowKit

/-- From a place in a bag up, at most n steps: does one stand beneath id? -/
def upw (L : List Sp) (id : Int) : Nat → Int → Bool
  | 0, _ => false
  | n + 1, a => match fnd L a with
    | none => false
    | some u => if u.p = id then true else upw L id n u.p
/-- No span stands above itself: each one's rank is above its parent's. -/
def Ranks (L : List Sp) (r : Int → Nat) : Prop := ∀ x ∈ L, ∀ u, fnd L x.p = some u → r u.i < r x.i
theorem upw_more {L : List Sp} {r : Int → Nat} (hr : Ranks L r) (id : Int) : ∀ (n m : Nat) (a : Int), (∀ u, fnd L a = some u → r u.i < n ∧ r u.i < m) → upw L id n a = upw L id m a := by
  intro n
  induction n with
  | zero =>
    intro m a h
    cases m with
    | zero => rfl
    | succ m =>
      unfold upw
      cases hf : fnd L a with
      | none => rfl
      | some u => have := (h u hf).1; omega
  | succ n ih =>
    intro m a h
    cases m with
    | zero =>
      unfold upw
      cases hf : fnd L a with
      | none => rfl
      | some u => have := (h u hf).2; omega
    | succ m =>
      unfold upw
      cases hf : fnd L a with
      | none => rfl
      | some u =>
        simp only
        split
        · rfl
        · refine ih m u.p fun v hv => ?_
          have h1 := h u hf
          have h2 := hr u (fnd_mem hf).1 v hv
          omega

/-- A place's rank. -/
def rk (L : List Sp) (r : Int → Nat) (a : Int) : Nat := match fnd L a with
  | none => 0
  | some u => r u.i + 1
/-- From a place in a bag up: does one stand beneath id? -/
def ups (L : List Sp) (r : Int → Nat) (id a : Int) : Bool := upw L id (rk L r a) a
theorem rk_some {L : List Sp} {r : Int → Nat} {a : Int} {u : Sp} (h : fnd L a = some u) : rk L r a = r u.i + 1 := by unfold rk; rw [h]
theorem rk_none {L : List Sp} {r : Int → Nat} {a : Int} (h : fnd L a = none) : rk L r a = 0 := by unfold rk; rw [h]
theorem ups_out {L : List Sp} {r : Int → Nat} {id a : Int} (h : fnd L a = none) : ups L r id a = false := by
  unfold ups
  rw [rk_none h]
  rfl
theorem ups_hit {L : List Sp} {r : Int → Nat} {id a : Int} {u : Sp} (h : fnd L a = some u) (hu : u.p = id) : ups L r id a = true := by
  unfold ups
  rw [rk_some h]
  unfold upw
  rw [h]
  simp [hu]
theorem ups_on {L : List Sp} {r : Int → Nat} (hr : Ranks L r) {id a : Int} {u : Sp} (h : fnd L a = some u) (hu : u.p ≠ id) : ups L r id a = ups L r id u.p := by
  unfold ups
  rw [rk_some h]
  conv => lhs; unfold upw
  rw [h]
  simp only [if_neg hu]
  refine upw_more hr id _ _ _ fun v hv => ?_
  have := hr u (fnd_mem h).1 v hv
  rw [rk_some hv]
  omega

/-- A loop's measure: the rank of the span that stands in a box, if there is one. -/
def rkOf (r : Int → Nat) (v5 v6 : Value) (wr : World) : Nat := match v6 with
  | .bool true => match v5 with
    | .pointer (some ad) => match wr.cell? ⟨ad.block, 1, none⟩ with
      | some (.int _ n) => r n + 1
      | _ => 0
    | _ => 0
  | _ => 0
theorem rkOf_some {r : Int → Nat} {g : Nat} {wr : World} {u : Sp} (h : SpAt wr g 0 u) : rkOf r (.pointer (some ⟨g, 0, none⟩)) (.bool true) wr = r u.i + 1 := by
  unfold rkOf
  simp only [h.c1]
theorem rkOf_none {r : Int → Nat} {v : Value} {wr : World} : rkOf r v (.bool false) wr = 0 := rfl

set_option maxRecDepth 200000 in
set_option maxHeartbeats 1000000 in
theorem above_any {w : World} {b : Nat} {L : List Sp} {D : DataW Value} (h : BagIs w b L D) {r : Int → Nat} (hr : Ranks L r) (hw : ∀ x ∈ L, (Lit.int .i64 x.p).wf = true) {x : Sp} (hx : (Lit.int .i64 x.p).wf = true) : Calls Try.prog 34 #[.map (some b), spV x] w fun e w' => e = .returned (.bool (ups L r x.i x.p)) ∧ Below w.heap.size w w' := by
  have HR := hide hr
  have HW := hide hw
  have hnew := spAt_new w x
  obtain ⟨t, i, p, s, e, nm⟩ := x
  have b1 := (Below.refl w.heap.size w).alloc (Nat.le_refl _) (.cells #[.int .i64 t, .int .i64 i, .int .i64 p, .int .i64 s, .int .i64 e, .string nm] 33)
  unfold spV at *
  dsimp only at *
  obtain ⟨X, hX⟩ : ∃ X, w.alloc (.cells #[.int .i64 t, .int .i64 i, .int .i64 p, .int .i64 s, .int .i64 e, .string nm] 33) = X := ⟨_, rfl⟩
  rw [hX] at hnew b1
  have hb1 : BagIs X b L D := by rw [← hX]; exact h.grown (World.grownBy_alloc w _ none) (by simp)
  have HS := hide hnew
  have HB := hide hb1
  have HB1 := hide b1
  have l1 := (hb1.look hx 0).1
  obtain ⟨u, hu⟩ : ∃ u, (fnd L p).getD sp0 = u := ⟨_, rfl⟩
  obtain ⟨th, hth⟩ : ∃ th, (fnd L p).isSome = th := ⟨_, rfl⟩
  rw [hu, hth] at l1
  have l1' : (Instr.lookup 47 (.map (some b)) (.int .i64 p) true).run Try.prog X = .ok (.tuple #[spV u, .bool th]) X := l1
  have c2 := hnew.c2
  have HU := hide (And.intro hu hth)
  clear h hr hw hnew b1 hb1 l1 hx hu hth
  unfold spV at l1'
  dsimp only at *
  go_enter Try.func34, Try.ntmps34
  go_wp2_with fail
  go_loopw [5, 6] (fun v5 v6 wr => ∃ (g : Nat) (a : Int) (th : Bool), v5 = .pointer (some ⟨g, 0, none⟩) ∧ v6 = .bool th ∧ Hid ((fnd L a).isSome = th ∧ SpAt wr g 0 ((fnd L a).getD sp0) ∧ SpAt wr w.heap.size 0 ⟨t, i, p, s, e, nm⟩ ∧ BagIs wr b L D ∧ Below w.heap.size w wr ∧ w.heap.size < g ∧ ups L r i a = ups L r i p)) (fun v5 v6 wr => rkOf r v5 v6 wr)
  case atStart =>
    refine ⟨X.heap.size, p, th, rfl, rfl, hide ⟨HU.out.2, ?_, ?_, HB.out.grown (World.grownBy_alloc X _ none) (by simp), HB1.out.alloc HB1.out.size _, ?_, rfl⟩⟩
    · rw [HU.out.1]
      exact spAt_new X u
    · exact HS.out.grown (World.grownBy_alloc X _ none) (by simp)
    · have := HS.out.lt
      exact this
  case round =>
    obtain ⟨g, a, th2, rfl, rfl, hrel⟩ := hrel
    obtain ⟨hth2, hg, hx, hbag, hbel, hgw, hups⟩ := hrel.out
    cases th2
    · have hf : fnd L a = none := by simpa using hth2
      have hres : ups L r i p = false := by rw [← hups]; exact ups_out hf
      have HRES := hide hres
      have HBE := hide hbel
      clear hres hf hth2 hg hx hbag hbel hgw hups hrel
      go_wp2
      go_ret
      exact ⟨by rw [HRES.out]; rfl, HBE.out⟩
    · obtain ⟨u2, hf⟩ : ∃ u2, fnd L a = some u2 := Option.isSome_iff_exists.1 hth2
      rw [hf, Option.getD_some] at hg
      by_cases hp : u2.p = i
      · have hres : ups L r i p = true := by rw [← hups]; exact ups_hit hf hp
        have HRES := hide hres
        have HBE := hide hbel
        have d2 := hg.c2
        have e1 := hx.c1
        dsimp only at e1
        rw [hp] at d2
        clear hres hf hth2 hg hx hbag hbel hgw hups hrel
        go_wp2
        go_ret
        exact ⟨by rw [HRES.out]; rfl, HBE.out⟩
      · have hup : ups L r i u2.p = ups L r i p := by rw [← hups]; exact (ups_on HR.out hf hp).symm
        have hz := hbag.grown (World.grownBy_alloc wr (.cells #[.int .i64 u2.t, .int .i64 u2.i, .int .i64 u2.p, .int .i64 u2.s, .int .i64 u2.e, .string u2.n] 33) none) (by simp)
        have l2 := (hz.look (HW.out u2 (fnd_mem hf).1) 0).1
        obtain ⟨v, hv⟩ : ∃ v, (fnd L u2.p).getD sp0 = v := ⟨_, rfl⟩
        obtain ⟨th3, hth3⟩ : ∃ th, (fnd L u2.p).isSome = th := ⟨_, rfl⟩
        rw [hv, hth3] at l2
        have l2' : (Instr.lookup 47 (.map (some b)) (.int .i64 u2.p) true).run Try.prog (wr.alloc (.cells #[.int .i64 u2.t, .int .i64 u2.i, .int .i64 u2.p, .int .i64 u2.s, .int .i64 u2.e, .string u2.n] 33)) = .ok (.tuple #[.agg #[.int .i64 v.t, .int .i64 v.i, .int .i64 v.p, .int .i64 v.s, .int .i64 v.e, .string v.n], .bool th3]) (wr.alloc (.cells #[.int .i64 u2.t, .int .i64 u2.i, .int .i64 u2.p, .int .i64 u2.s, .int .i64 u2.e, .string u2.n] 33)) := l2
        obtain ⟨d0, d1, d2, d3, d4, d5⟩ := hg.z
        have e1 := hx.c1
        dsimp only at e1
        have HV := hide (And.intro hv hth3)
        have HF := hide hf
        have HP := hide hp
        have HUP := hide hup
        have HG := hide hg
        have HX2 := hide (And.intro hx (And.intro hbag (And.intro hbel hgw)))
        have hpi : (u2.p == i) = false := beq_eq_false_iff_ne.2 hp
        clear l2 hz hup hv hth3 hf hth2 hg hx hbag hbel hgw hups hrel
        go_wp2
        refine ⟨⟨wr.heap.size, u2.p, th3, rfl, rfl, hide ⟨HV.out.2, ?_, HX2.out.1.grown (World.grownBy_alloc wr _ none) (by simp), HX2.out.2.1.grown (World.grownBy_alloc wr _ none) (by simp), HX2.out.2.2.1.alloc HX2.out.2.2.1.size _, ?_, HUP.out⟩⟩, ?_⟩
        · rw [HV.out.1]
          exact spAt_new wr v
        · exact HX2.out.1.lt
        · rw [rkOf_some HG.out]
          cases th3 with
          | false => rw [rkOf_none]; omega
          | true =>
            obtain ⟨v', hv'⟩ : ∃ v', fnd L u2.p = some v' := Option.isSome_iff_exists.1 HV.out.2
            have hvv := HV.out.1
            rw [hv', Option.getD_some] at hvv
            subst hvv
            rw [rkOf_some (spAt_new wr v')]
            have := HR.out u2 (fnd_mem HF.out).1 v' hv'
            omega
end Go.Proofs.Ytbbdijnkgkabbaa
