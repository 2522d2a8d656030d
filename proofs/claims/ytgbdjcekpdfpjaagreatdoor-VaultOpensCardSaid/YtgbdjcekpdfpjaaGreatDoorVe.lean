/- Several texts made one. -/
import Derived.Test.YtgbdjcekpdfpjaaGreatDoorVd
import Derived.Test.YtgbdjcekpdfpjaaGreatDoorVc
import Derived.Shelf.RegionOpen
set_option linter.unusedVariables false
set_option linter.unusedSimpArgs false
namespace Go.Proofs.YtgbdjcekpdfpjaaGreatDoor
open Go.RowKit
attribute [local go_sem] Oper.semAt_some
structure WrI (X : World) (M₀ S C : Nat → Prop) (g ab rb : Nat) (M : Nat → Prop) (W : World) (st' : Dk) (S' C' : Nat → Prop) : Prop where
 di : DiskIs W S' C' g st'
 mS : ∀ k, S' k → M k
 mC : ∀ k, C' k → C k ∨ (X.heap.size ≤ k ∧ M k)
 ma : M ab
 mr : M rb
 na : ¬ S' ab ∧ ¬ C' ab
 nr : ¬ S' rb ∧ ¬ C' rb
 mM : ∀ k, M k → (M₀ k ∨ X.heap.size ≤ k) ∧ k < W.heap.size
 cg : Chg X W M₀
theorem WrI.chg {X W W' : World} {M₀ S C M S' C' : Nat → Prop} {g ab rb : Nat} {st' : Dk} (h : WrI X M₀ S C g ab rb M W st' S' C') (hC : ∀ k, C k → k < X.heap.size) (hc : Chg W W' (fun k => X.heap.size ≤ k ∧ ¬ M k)) : WrI X M₀ S C g ab rb M W' st' S' C' :=
 ⟨h.di.chg hc (fun k hk h' => h'.2 (h.mS k hk)) (fun k hk h' => by
  rcases h.mC k hk with h1 | h1
  ·have := hC k h1; omega
  ·exact h'.2 h1.2), h.mS, h.mC, h.ma, h.mr, h.na, h.nr, fun k hk => ⟨(h.mM k hk).1, Nat.lt_of_lt_of_le (h.mM k hk).2 hc.size⟩, h.cg.then hc (fun k h => .inr h.1)⟩
theorem WrI.step {X W W' : World} {M₀ S C M S' C' : Nat → Prop} {g ab rb : Nat} {st' z : Dk} (h : WrI X M₀ S C g ab rb M W st' S' C') (hp : DPost W S' C' g z W') (hX : X.heap.size ≤ W.heap.size) :
  ∃ S3 C3, WrI X M₀ S C g ab rb (fun k => M k ∨ (W.heap.size ≤ k ∧ k < W'.heap.size)) W' z S3 C3 ∧ Chg W W' S' := by
 obtain ⟨S3, C3, d, hc, h3, h4⟩ := hp
 have ha := (h.mM ab h.ma).2
 have hr := (h.mM rb h.mr).2
 refine ⟨S3, C3, ⟨d, fun k hk => ?_, fun k hk => ?_, .inl h.ma, .inl h.mr, ⟨fun hk => ?_, fun hk => ?_⟩, ⟨fun hk => ?_, fun hk => ?_⟩, fun k hk => ?_, h.cg.then hc fun k hk => (h.mM k (h.mS k hk)).1⟩, hc⟩
 ·rcases h3 k hk with h1 | h1
  ·exact .inl (h.mS k h1)
  ·exact .inr ⟨h1, d.sap k hk⟩
 ·rcases h4 k hk with h1 | h1
  ·exact (h.mC k h1).imp id fun h => ⟨h.1, .inl h.2⟩
  ·exact .inr ⟨by omega, .inr ⟨h1, d.cap k hk⟩⟩
 ·rcases h3 ab hk with h1 | h1
  ·exact h.na.1 h1
  ·omega
 ·rcases h4 ab hk with h1 | h1
  ·exact h.na.2 h1
  ·omega
 ·rcases h3 rb hk with h1 | h1
  ·exact h.nr.1 h1
  ·omega
 ·rcases h4 rb hk with h1 | h1
  ·exact h.nr.2 h1
  ·omega
 ·rcases hk with hk | hk
  ·exact ⟨(h.mM k hk).1, Nat.lt_of_lt_of_le (h.mM k hk).2 hc.size⟩
  ·exact ⟨.inr (by omega), hk.2⟩
theorem WrI.box {X W W' : World} {M₀ S C M S' C' : Nat → Prop} {g ab rb : Nat} {st' : Dk} (h : WrI X M₀ S C g ab rb M W st' S' C') (hc : Chg W W' (fun k => k = ab ∨ k = rb)) (h1 : M₀ ab) (h2 : M₀ rb) : WrI X M₀ S C g ab rb M W' st' S' C' :=
 ⟨h.di.chg hc (fun k hk e => e.elim (fun e => h.na.1 (e ▸ hk)) (fun e => h.nr.1 (e ▸ hk))) (fun k hk e => e.elim (fun e => h.na.2 (e ▸ hk)) (fun e => h.nr.2 (e ▸ hk))), h.mS, h.mC, h.ma, h.mr, h.na, h.nr, fun k hk => ⟨(h.mM k hk).1, Nat.lt_of_lt_of_le (h.mM k hk).2 hc.size⟩, h.cg.then hc fun k e => e.elim (fun e => .inl (e ▸ h1)) (fun e => .inl (e ▸ h2))⟩
def wrI (X : World) (M₀ S C : Nat → Prop) (g ab rb : Nat) (s : Sn) (st : Dk) (n U : Nat) (pre : List Value) (M : Nat → Prop) (W : World) : Prop :=
 ∃ st' S' C' a, WrI X M₀ S C g ab rb M W st' S' C' ∧ writesL (s.recs.drop pre.length) a st' = writesL s.recs 0 st ∧ st'.Fine (n + pre.length) (U + a) ∧ a + (s.recs.drop pre.length).flatten.length ≤ 1000000 ∧ pre.length ≤ s.recs.length ∧
  W.cell? ⟨ab, 0, none⟩ = some (.int .i64 a) ∧ W.frozen? ⟨ab, 0, none⟩ = false ∧ W.cell? ⟨rb, 0, none⟩ = some (.int .i64 0) ∧ W.frozen? ⟨rb, 0, none⟩ = false
def wrX (X : World) (M₀ S C : Nat → Prop) (g ab rb : Nat) (s : Sn) (st : Dk) (c : Code) (pre : List Value) (M : Nat → Prop) (W : World) : Prop :=
 c = .ret ∧ ∃ st' S' C' e, WrI X M₀ S C g ab rb M W st' S' C' ∧ writesL s.recs 0 st = (e, st') ∧ W.cell? ⟨rb, 0, none⟩ = some (.int .i64 (e : Nat))
theorem writesL_go {b : List UInt8} {r : List (List UInt8)} {a m : Nat} {st y : Dk} (h : st.write freshN a b = (m, y)) : writesL (b :: r) a st = if m = 0 then writesL r (a + b.length) y else (m, giveUpL m y) := by
 conv => lhs; unfold writesL
 rw [h]
theorem rows4 (w : World) (a b c d : Obj) : ∃ X, (((w.alloc a).alloc b).alloc c).alloc d = X ∧ X.heap.size = w.heap.size + 4 ∧ X.heap[w.heap.size]? = some a ∧ X.heap[w.heap.size + 1]? = some b ∧ X.heap[w.heap.size + 1 + 1]? = some c ∧ X.heap[w.heap.size + 1 + 1 + 1]? = some d := by
 have h1 := World.alloc_heap_new w a
 have h2 := World.alloc_heap_new (w.alloc a) b
 have h3 := World.alloc_heap_new ((w.alloc a).alloc b) c
 have h4 := World.alloc_heap_new (((w.alloc a).alloc b).alloc c) d
 simp only [World.size_alloc] at h2 h3 h4
 refine ⟨_, rfl, by simp, ?_, ?_, ?_, h4⟩
 ·exact (Below.heap_alloc _ _ _ (by simp <;> omega)).trans ((Below.heap_alloc _ _ _ (by simp <;> omega)).trans ((Below.heap_alloc _ _ _ (by simp)).trans h1))
 ·exact (Below.heap_alloc _ _ _ (by simp <;> omega)).trans ((Below.heap_alloc _ _ _ (by simp)).trans h2)
 ·exact (Below.heap_alloc _ _ _ (by simp)).trans h3
set_option maxRecDepth 100000 in
set_option maxHeartbeats 4000000 in
theorem vwrite_any {w : World} {S C : Nat → Prop} {b g : Nat} {vo da : Value} {s : Sn} {st : Dk} (h : Vt w b vo da s g) (ho : DiskIs w S C g st) (hbS : ¬ S b) (hvS : Lies (fun k => ¬ S k ∧ k < w.heap.size) vo s.vo) (hdS : Lies (fun k => ¬ S k ∧ k < w.heap.size) da s.da)
  {n U : Nat} (hf : st.Fine n U) (hn : n + s.recs.length ≤ 900000) (hvs : s.vo.length ≤ 1000) (hds : s.da.length ≤ 300000) (hrn : s.recs.length ≤ 90000) (hfl : s.file.length ≤ 1000000) :
  Calls Tryz.prog 59 #[.pointer (some ⟨b, 0, none⟩)] w (AnP w S C g (writesL s.recs 0 st)) := by
 have HO := hide ho
 have H := hide h
 have HF := hide hf
 have HVS := hide hvS
 have HDS := hide hdS
 have hbl := h.lt
 have q4 := h.c4
 clear h ho hvS hdS hf
 refine (callsIn_wide (n := 3)).1 (callsIn_of_wp_marks Tryz.func59 rfl trivial ?_)
 simp only [Tryz.ntmps59, List.size_toArray, List.length_cons, List.length_nil, Nat.reduceAdd, Nat.reduceSub, Array.replicate_succ, Array.replicate_zero, List.push_toArray, List.append_toArray, List.nil_append, List.cons_append]
 gi_wp2_with (refine ⟨trivial, ?_⟩; gi_at_call 96; refine CallsIn.mono (callsIn_wide.2 records_any) ?_; rintro e w2 ⟨rfl, hw2⟩; have HW2 := hide hw2; clear hw2)
 obtain ⟨vb, hvb⟩ : ∃ k, w.heap.size = k := ⟨_, rfl⟩
 obtain ⟨X4, hx4, hsX, r0, r1, r2, r3⟩ := rows4 w (.cells #[.pointer (some ⟨b, 0, none⟩)] 33) (.cells #[.int .i64 0] 27) (.cells #[.int .i64 0] 3) (.cells #[.pointer (some ⟨b, 0, none⟩)] 150)
 obtain rfl : w2 = X4 := HW2.out.trans hx4
 clear hx4
 rw [hvb] at hsX r0 r1 r2 r3
 have hX1 : w2.cell? ⟨vb, 0, none⟩ = some (.pointer (some ⟨b, 0, none⟩)) := by rw [cell_of_row w2 _ 0 _ _ (0, 0) r0]; rfl
 have hX2 : w2.cell? ⟨vb + 1, 0, none⟩ = some (.int .i64 0) := by rw [cell_of_row w2 _ 0 _ _ (0, 0) r1]; rfl
 have hX3 : w2.cell? ⟨vb + 1 + 1, 0, none⟩ = some (.int .i64 0) := by rw [cell_of_row w2 _ 0 _ _ (0, 0) r2]; rfl
 have hX4 : w2.cell? ⟨vb + 1 + 1 + 1, 0, none⟩ = some (.pointer (some ⟨b, 0, none⟩)) := by rw [cell_of_row w2 _ 0 _ _ (0, 0) r3]; rfl
 have hF2 := frozen_of_row w2 (vb + 1) 0 _ _ r1
 have hF3 := frozen_of_row w2 (vb + 1 + 1) 0 _ _ r2
 clear r0 r1 r2 r3
 have hbX : Below w.heap.size w w2 := by rw [HW2.out]; exact balloc (balloc (balloc (balloc (Below.refl _ _) _) _) _) _
 rw [hvb]
 obtain ⟨rb, hrb⟩ : ∃ k, vb + 1 = k := ⟨_, rfl⟩
 rw [hrb] at hX2 hX3 hX4 hF2 hF3 ⊢
 obtain ⟨ab, hab⟩ : ∃ k, rb + 1 = k := ⟨_, rfl⟩
 rw [hab] at hX3 hX4 hF3 ⊢
 obtain ⟨bs, hbs⟩ : ∃ k, ab + 1 = k := ⟨_, rfl⟩
 rw [hbs] at hX4 ⊢
 have HSZ : Hid (w.heap.size = vb ∧ vb + 1 = rb ∧ rb + 1 = ab ∧ ab + 1 = bs ∧ w2.heap.size = bs + 1) := hide ⟨hvb, hrb, hab, hbs, by omega⟩
 have hSl : ∀ k, S k → k < vb := fun k hk => by rw [← hvb]; exact HO.out.sap k hk
 have hCl : ∀ k, C k → k < vb := fun k hk => by rw [← hvb]; exact HO.out.cap k hk
 have HSL := hide hSl
 have HCL := hide hCl
 have HBX := hide hbX
 have HX2 := hide hX2
 have HX3 := hide hX3
 have HX4 := hide hX4
 have HX1 := hide hX1
 have HF2 := hide hF2
 have HF3 := hide hF3
 have hbv : b < vb := by omega
 have HFIN : Hid (∀ (st' : Dk) (S' C' M : Nat → Prop) (W F : World), WrI w2 (fun k => S k ∨ k = rb ∨ k = ab) S C g ab rb M W st' S' C' → ¬ M w2.heap.size → Chg W F (fun k => k = rb ∨ k = w2.heap.size) → DPost w S C g st' F) := hide (by
  intro st' S' C' M W F h1 hnM hc
  refine ⟨S', C', h1.di.chg hc (fun k hk e => ?_) (fun k hk e => ?_), ?_, fun k hk => ?_, fun k hk => ?_⟩
  ·rcases e with rfl | rfl
   ·exact h1.nr.1 hk
   ·exact hnM (h1.mS _ hk)
  ·rcases e with rfl | rfl
   ·exact h1.nr.2 hk
   ·rcases h1.mC _ hk with h | h
    ·have := hCl _ h; omega
    ·exact hnM h.2
  ·refine (((Chg.of_below hbX S).then h1.cg fun k h => ?_)).then hc fun k h => .inr (by omega)
   rcases h with h | h | h
   ·exact .inl h
   ·exact .inr (by omega)
   ·exact .inr (by omega)
  ·rcases (h1.mM k (h1.mS k hk)).1 with h | h
   ·rcases h with h | h | h
    ·exact .inl h
    ·exact .inr (by omega)
    ·exact .inr (by omega)
   ·exact .inr (by omega)
  ·rcases h1.mC k hk with h | h
   ·exact .inl h
   ·exact .inr (by omega))
 clear hvb hrb hab hbs hsX hSl hCl hbX hX1 hX2 hX3 hX4 hF2 hF3 HW2 hbl
 refine range_any (gf := 120) (lb := #[.pointer (some ⟨bs, 0, none⟩)]) rfl (enters_of Tryz.func120 (by kernel_rfl) rfl) (encs := fun x : Value => #[x]) (Y := rcY s (w2.heap.size + 2)) (Dn := fun pre => pre.length = s.recs.length) (Tk := fun x k => x.ownBlock = some k) (fun _ => rfl) (fun k => S k ∨ k = rb ∨ k = ab) (fun k hk => by have := HSZ.out; rcases hk with h | h | h; (have := HSL.out k h; omega); omega; omega)
  (fun W5 hc5 hs5 => ?hit)
  (fun pre x N N' W o hlp hNN hy => by
   obtain ⟨r, hr⟩ := hlp
   obtain ⟨y, h1, h2, h3⟩ := hy
   exact ⟨y, h1, h2.loop hr o, fun k hk hn => h3 k hk (hNN k hn)⟩)
  (fun pre x N W k hy hk => by
   obtain ⟨y, h1, h2, h3⟩ := hy
   have hy0 : 0 < y.length := by
    unfold Sn.recs at h1
    cases hp : pre.length with
    | zero => rw [hp] at h1; simp at h1; rw [← h1]; simp [recL, front]
    | succ j => rw [hp] at h1; simp at h1; obtain ⟨z, _, h⟩ := h1; rw [← h]; simp [recL, front]
   exact (h2.lt hy0 k hk).1)
  (wrI w2 (fun k => S k ∨ k = rb ∨ k = ab) S C g ab rb s st n U) (wrX w2 (fun k => S k ∨ k = rb ∨ k = ab) S C g ab rb s st)
  ⟨?i1, ?i2⟩ (fun c => ⟨?x1, ?x2⟩)
  ?h0
  (fun x => { tmps := #[.pointer (some ⟨b, 0, none⟩), .pointer (some ⟨vb, 0, none⟩), .pointer (some ⟨rb, 0, none⟩), .pointer (some ⟨ab, 0, none⟩), x, undef, .pointer (some ⟨b, 0, none⟩), .pointer (some ⟨b, 0, none⟩), .pointer (some ⟨b, 0, none⟩), .func (.func 120) #[] #[.pointer (some ⟨bs, 0, none⟩)], x, undef, undef, undef, undef, undef, undef, undef, undef, undef, undef, undef, undef, undef, undef, undef, undef, undef], defers := [] })
  ?assign ?body ?done ?stop
 case hit =>
  have hz := HSZ.out
  have hsr : Src w2.heap.size (fun k => S k ∨ k = rb ∨ k = ab) w2 bs b vo da s := by
   have hne : ∀ k, (¬ S k ∧ k < w.heap.size) → ¬ (S k ∨ k = rb ∨ k = ab) ∧ k < w2.heap.size := fun k h => ⟨fun h' => by
    rcases h' with h' | h' | h'
    ·exact h.1 h'
    ·omega
    ·omega, by omega⟩
   exact ⟨HX4.out, (H.out.below HBX.out).st, ⟨fun h' => by
    rcases h' with h' | h' | h'
    ·have := HSL.out _ h'; omega
    ·omega
    ·omega, by omega⟩, hne b ⟨hbS, by omega⟩, HVS.out.mono hne, HDS.out.mono hne⟩
  have := records_gives (l := w2.heap.size + 1) ((hsr.chg hc5 (fun _ h => h.elim)).to (n' := W5.heap.size) (M' := fun k => (S k ∨ k = rb ∨ k = ab) ∨ k = w2.heap.size + 1) (by omega) (fun k hk => hk.imp id fun h => by omega)) hvs (by omega)
  rw [hs5] at this
  exact this
 case i1 =>
  rintro pre M W ⟨st', S', C', a, h1, h2⟩ k hk
  exact h1.mM k hk
 case i2 =>
  rintro pre M W W' ⟨st', S', C', a, h1, h2, h3, h4, h5, h6, h7, h8, h9⟩ hc
  have hz := HSZ.out
  have na : ¬ (w2.heap.size ≤ ab ∧ ¬ M ab) := fun h => by omega
  have nr : ¬ (w2.heap.size ≤ rb ∧ ¬ M rb) := fun h => by omega
  have fz : ∀ k, k < W.heap.size → ¬ (w2.heap.size ≤ k ∧ ¬ M k) → W'.frozen? ⟨k, 0, none⟩ = W.frozen? ⟨k, 0, none⟩ := fun k hk hn => by unfold World.frozen?; rw [hc.block k hk hn]
  exact ⟨st', S', C', a, h1.chg (fun k hk => by have := HCL.out k hk; omega) hc, h2, h3, h4, h5, hc.cell h6 na, (fz ab (lt_of_cell h6) na).trans h7, hc.cell h8 nr, (fz rb (lt_of_cell h8) nr).trans h9⟩
 case x1 =>
  rintro pre M W ⟨rfl, st', S', C', e, h1, h2⟩ k hk
  exact h1.mM k hk
 case x2 =>
  rintro pre M W W' ⟨rfl, st', S', C', e, h1, h2, h3⟩ hc
  have hz := HSZ.out
  exact ⟨rfl, st', S', C', e, h1.chg (fun k hk => by have := HCL.out k hk; omega) hc, h2, hc.cell h3 (fun (h : w2.heap.size ≤ rb ∧ ¬ M rb) => by omega)⟩
 case h0 =>
  have hz := HSZ.out
  have hc := Chg.of_below HBX.out (fun _ => False)
  refine ⟨st, S, C, 0, ⟨HO.out.chg hc (fun _ _ h => h) (fun _ _ h => h), fun k hk => .inl hk, fun k hk => .inl hk, .inr (.inr rfl), .inr (.inl rfl), ⟨fun h => by have := HSL.out _ h; omega, fun h => by have := HCL.out _ h; omega⟩, ⟨fun h => by have := HSL.out _ h; omega, fun h => by have := HCL.out _ h; omega⟩, fun k hk => ⟨.inl hk, ?_⟩, Chg.refl _ _⟩, rfl, HF.out.mono (Nat.le_refl _) (Nat.le_refl _), ?_, Nat.zero_le _, HX3.out, HF3.out, HX2.out, HF2.out⟩
  ·rcases hk with h | h | h
   ·have := HSL.out k h; omega
   ·omega
   ·omega
  ·show 0 + s.file.length ≤ 1000000
   omega
 case assign =>
  intro x W K hK
  gi_wp2
  exact hK
 case body =>
  rintro pre x M W ⟨st', S', C', a, h1, h2, h3, h4, h5, h6, h7, h8, h9⟩ ⟨y, hy1, hy2, hy3⟩ hsW
  have hz := HSZ.out
  have hplen := (List.getElem?_eq_some_iff.1 hy1).1
  have hdr : s.recs.drop pre.length = y :: s.recs.drop (pre.length + 1) := by
   rw [List.drop_eq_getElem_cons hplen]; congr 1
   rw [List.getElem?_eq_getElem hplen] at hy1; exact Option.some.inj hy1
  rw [hdr] at h2 h4
  simp only [List.flatten_cons, List.length_append] at h4
  obtain ⟨px, nx, cx, rfl⟩ := hy2.by_.sl
  obtain rfl : nx = y.length := hy2.by_.len.1
  have hvW : W.cell? ⟨vb, 0, none⟩ = some (.pointer (some ⟨b, 0, none⟩)) := h1.cg.cell HX1.out (show ¬ (S vb ∨ vb = rb ∨ vb = ab) from fun h => by
   rcases h with h | h | h
   ·have := HSL.out _ h; omega
   ·omega
   ·omega)
  have hgW : W.cell? ⟨b, 4, none⟩ = some (.pointer (some ⟨g, 0, none⟩)) := h1.cg.cell ((HBX.out.cell (lt_of_cell q4)).trans q4) (show ¬ (S b ∨ b = rb ∨ b = ab) from fun h => by
   rcases h with h | h | h
   ·exact hbS h
   ·omega
   ·omega)
  have hcal := h3.calm (by omega)
  have hwr : ∀ V, Below W.heap.size W V → Calls Tryz.prog 29 #[.pointer (some ⟨g, 0, none⟩), .string { data := #[115, 110, 97, 112, 46, 110, 101, 119] }, .int .i64 a, .slice px y.length cx] V fun e w' => e = .returned (.int .i64 ((st'.write freshN a y).1 : Nat)) ∧ DPost V S' C' g (st'.write freshN a y).2 w' := fun V hV =>
   write_any (s := { data := #[115, 110, 97, 112, 46, 110, 101, 119] }) (h1.di.chg (Chg.of_below hV _) (fun _ _ h => h) (fun _ _ h => h)) (by decide) (by omega) (by omega) (hy2.by_.below hV) (by omega) hcal.few hcal.k1 hcal.k2 hcal.t1 hcal.t2
  have HWR := hide hwr
  have hfw := h3.write (by omega) freshN a y
  obtain ⟨m, z, hm⟩ : ∃ m z, st'.write freshN a y = (m, z) := ⟨_, _, rfl⟩
  have HSP : Hid ((if m = 0 then writesL (s.recs.drop (pre.length + 1)) (a + y.length) z else (m, giveUpL m z)) = writesL s.recs 0 st) := hide (by rw [← h2, writesL_go hm])
  rw [hm] at HWR hfw
  have H1 := hide h1
  have HFW := hide hfw
  have H4 := hide h4
  have H6 := h6
  clear hwr hfw hm h1 h2 h3 hcal hdr hy1 hy3
  have hmix : Tryz.prog.follows .mixedOrders = true := by kernel_rfl
  gi_wp2_with fail
  have hnot : ∀ k, k ≤ vb → ¬ S k → ¬ S' k := fun k h1 h2 h => by
   rcases (H1.out.mM k (H1.out.mS k h)).1 with h | h
   ·rcases h with h | h | h
    ·exact h2 h
    ·omega
    ·omega
   ·omega
  have HNOT := hide hnot
  clear hnot
  refine region_in_round (S := fun W => W.cell? ⟨vb, 0, none⟩ = some (.pointer (some ⟨b, 0, none⟩)) ∧ W.cell? ⟨b, 4, none⟩ = some (.pointer (some ⟨g, 0, none⟩)) ∧ W.cell? ⟨ab, 0, none⟩ = some (.int .i64 a)) hmix (by kernel_rfl) (fun ⟨_, _, h⟩ => h) ?_ (fun hHeld => ?_)
  ·(try dsimp only)
   exact ⟨hvW, hgW, h6⟩
  refine tkL 0 rfl ?_
  refine tkL 1 rfl ?_
  refine tkL 2 rfl ?_
  refine tkL 3 rfl ?_
  refine tkL 4 rfl ?_
  refine tkL 5 rfl ?_
  refine wpAnyH_ready (rs := [6]) (by kernel_rfl) (by simp) ?_
  refine acL rfl (fun K hK => ?_) ?_
  ·go_simp
   go_at_call 29
   refine (HWR.out _ (by first | exact Below.refl _ _ | exact below_drewN (Below.refl _ _) _)).mono ?_
   rintro e w3 ⟨rfl, hp3⟩
   have hp3 := hp3.from ((Chg.refl W (fun _ => False)).drewN 1)
   obtain ⟨S3, C3, hw3, hc3⟩ := H1.out.step hp3 (by omega)
   have hna := H1.out.na
   have hnr := H1.out.nr
   have h6' := hc3.cell h6 hna.1
   have h8' := hc3.cell h8 hnr.1
   have h7' : w3.frozen? ⟨ab, 0, none⟩ = false := by rw [← h7]; unfold World.frozen?; rw [hc3.block ab (lt_of_cell h6) hna.1]
   have h9' : w3.frozen? ⟨rb, 0, none⟩ = false := by rw [← h9]; unfold World.frozen?; rw [hc3.block rb (lt_of_cell h8) hnr.1]
   have hv3 := hc3.cell hvW (HNOT.out vb (by omega) (fun h => by have := HSL.out vb h; omega))
   have hg3 := hc3.cell hgW (HNOT.out b (by omega) hbS)
   have HW3 := hide hw3
   have HC3 := hide (hc3.mono' H1.out.mS)
   have hs3 := hc3.size
   clear hw3 hc3 hp3 hna hnr
   first
    | refine hK.out _ _ ?_ (fun hHeld => ?_)
    | (go_wp2_with fail; refine hK.out _ _ ?_ (fun hHeld => ?_))
   ·(try dsimp only)
    exact ⟨hv3, hg3, h6'⟩
   clear hK K
   try simp only [Act.put, qA, qB, qC]
   refine tkL 7 rfl ?_
   refine wpAnyH_done (by kernel_rfl) ?_ _
   have ha3 : a + y.length ≤ 1000000 := by have := H4.out; omega
   clear hvW hgW h6 h7 h8 h9 HWR
   by_cases hm : m = 0
   ·subst hm
    have e0 : (((0 : Nat) : Int) != 0) = false := rfl
    gi_wp2_with fail
    have hcs := chg_set w3 ab 0 (.int .i64 ((a : Int) + (y.length : Int)))
    have hms := hcs
    obtain ⟨F, hF⟩ : ∃ F, w3.setCell ⟨ab, 0, none⟩ (.int .i64 ((a : Int) + (y.length : Int))) = F := ⟨_, rfl⟩
    have hfa : F.cell? ⟨ab, 0, none⟩ = some (.int .i64 ((a + y.length : Nat) : Int)) := by rw [← hF]; exact World.cell?_setCell_same' _ _ _ (by rw [h6']; rfl)
    rw [hF] at hcs ⊢
    have hne : ¬ rb = ab := by omega
    have hmem : (pre ++ [Value.slice px y.length cx]).length = pre.length + 1 := by simp
    have hfz : ∀ k, k < w3.heap.size → w3.frozen? ⟨k, 0, none⟩ = false → F.frozen? ⟨k, 0, none⟩ = false := fun k hk h => by rw [← hF]; rw [World.frozen?_setCell]; exact h
    have hsp : writesL (s.recs.drop (pre.length + 1)) (a + y.length) z = writesL s.recs 0 st := by simpa using HSP.out
    refine ⟨_, ⟨z, S3, C3, a + y.length, HW3.out.box (hcs.mono' fun k e => .inl e) (.inr (.inr rfl)) (.inr (.inl rfl)), ?_, ?_, ?_, ?_, hfa, hfz ab (lt_of_cell h6') h7', hcs.cell h8' hne, hfz rb (lt_of_cell h8') h9'⟩, ?_, fun k hk => ?_⟩
    ·rw [hmem]; exact hsp
    ·rw [hmem]; exact HFW.out.mono (by omega) (by omega)
    ·rw [hmem]; have := H4.out; omega
    ·rw [hmem]; omega
    ·exact HC3.out.then (hcs.mono' fun k e => by rw [e]; exact H1.out.ma) fun k h => .inl h
    ·rcases hk with hk | hk
     ·exact .inl hk
     ·exact .inr (.inl hk.1)
   ·have e0 : ((m : Int) != 0) = true := by simpa using hm
    have hsp := HSP.out
    rw [if_neg hm] at hsp
    have HSP2 := hide hsp
    clear hsp
    have hnot3 : ∀ k, k < vb → ¬ S k → ¬ S3 k := fun k h1 h2 h => by
     rcases (HW3.out.mM k (HW3.out.mS k h)).1 with h | h
     ·rcases h with h | h | h
      ·exact h2 h
      ·omega
      ·omega
     ·omega
    have HGU := hide (vgiveUp_any (e := m) (n := n + pre.length + 1) (U := U + a + y.length) hg3 (hnot3 b hbv hbS) HW3.out.di HFW.out (by omega))
    gi_wp2_with (refine ⟨trivial, ?_⟩; gi_at_call 97; refine CallsIn.mono (CallsIn.inRound _ (callsIn_wide.2 HGU.out)) ?_; rintro e w4 ⟨rfl, hp4⟩; obtain ⟨S4, C4, hw4, hc4⟩ := HW3.out.step hp4 (by omega); have h8'' := hc4.cell h8' HW3.out.nr.1; have h9'' : w4.frozen? ⟨rb, 0, none⟩ = false := (by rw [← h9']; unfold World.frozen?; rw [hc4.block rb (lt_of_cell h8') HW3.out.nr.1]); have HW4 := hide hw4; have HC4 := hide (HC3.out.then hc4 (fun k hk => (HW3.out.mS k hk).imp id fun h => h.1)); clear hw4 hc4 hp4)
    have hcs := chg_set w4 rb 0 (.int .i64 (m : Int))
    obtain ⟨F, hF⟩ : ∃ F, w4.setCell ⟨rb, 0, none⟩ (.int .i64 (m : Int)) = F := ⟨_, rfl⟩
    have hfa : F.cell? ⟨rb, 0, none⟩ = some (.int .i64 (m : Int)) := by rw [← hF]; exact World.cell?_setCell_same' _ _ _ (by rw [h8'']; rfl)
    rw [hF] at hcs ⊢
    have hs4 := HC4.out.size
    refine ⟨_, ⟨rfl, giveUpL m z, S4, C4, m, HW4.out.box (hcs.mono' fun k e => .inr e) (.inr (.inr rfl)) (.inr (.inl rfl)), HSP2.out.symm, hfa⟩, HC4.out.then (hcs.mono' fun k e => by rw [e]; exact H1.out.mr) fun k h => .inl h, fun k hk => ?_⟩
    rcases hk with (hk | hk) | hk
    ·exact .inl hk
    ·exact .inr (.inl hk.1)
    ·exact .inr (.inl (by omega))
  exact AllReadyH.nil
 case done =>
  rintro pre M W hd ⟨st', S', C', a, h1, h2, h3, h4, h5, h6, h7, h8, h9⟩ hnM hsW hdf
  have hz := HSZ.out
  have hcs := chg_set W rb 0 (.int .i64 0)
  have hdf' : (W.setCell ⟨rb, 0, none⟩ (.int .i64 0)).heap[w2.heap.size]? = some (.deferred (some [])) := (hcs.block w2.heap.size (Array.getElem?_eq_some_iff.1 hdf).1 (by omega)).trans hdf
  have hrc : (W.setCell ⟨rb, 0, none⟩ (.int .i64 0)).cell? ⟨rb, 0, none⟩ = some (.int .i64 0) := World.cell?_setCell_same' _ _ _ (by rw [h8]; rfl)
  have hsp : writesL s.recs 0 st = (0, st') := by
   rw [← h2, hd, List.drop_length]; rfl
  have hpo : Chg (W.setCell ⟨rb, 0, none⟩ (.int .i64 0)) ((W.setCell ⟨rb, 0, none⟩ (.int .i64 0)).putObj w2.heap.size (.deferred none)) (fun k => k = w2.heap.size) := Chg.putObj _
  have hrc' := hpo.cell hrc (show ¬ rb = w2.heap.size by omega)
  have HPO := hide (HFIN.out _ _ _ _ _ _ h1 hnM ((hcs.mono' fun k e => .inl e).then (hpo.mono' fun k e => .inr e) fun k h => .inl h))
  have HSP := hide hsp
  have HDF := hide hdf'
  clear hcs hpo hrc hsp h1 h2 h3 h4 h6 h7 hd hdf hdf' hz
  gi_wp2_with fail
  refine ⟨by simp, .inl ⟨_, _, rfl, run_takeDeferred HDF.out, ?_⟩⟩
  refine ⟨.int .i64 0, by simp [results, Tryz.results59, go_sem, hrc'], ?_⟩
  rw [HSP.out]
  exact ⟨rfl, HPO.out⟩
 case stop =>
  rintro c pre M W ⟨rfl, st', S', C', e, h1, h2, h3⟩ hnM hsW hdf
  have hz := HSZ.out
  have hpo : Chg W (W.putObj w2.heap.size (.deferred none)) (fun k => k = w2.heap.size) := Chg.putObj _
  have hrc' := hpo.cell h3 (show ¬ rb = w2.heap.size by omega)
  have HPO := hide (HFIN.out _ _ _ _ _ _ h1 hnM (hpo.mono' fun k e => .inr e))
  have HSP := hide h2
  have HDF := hide hdf
  clear hpo h1 h2 hdf hz
  gi_wp2_with fail
  refine ⟨by simp, .inl ⟨_, _, rfl, run_takeDeferred HDF.out, ?_⟩⟩
  refine ⟨.int .i64 (e : Nat), by simp [results, Tryz.results59, go_sem, hrc'], ?_⟩
  rw [HSP.out]
  exact ⟨rfl, HPO.out⟩
end Go.Proofs.YtgbdjcekpdfpjaaGreatDoor
namespace Go.Proofs.YtgbdjcekpdfpjaaGreatDoor
open Go.RowKit
theorem seqE_stop {x : Nat × Dk} {f : Dk → Nat × Dk} (h : x.1 ≠ 0) : seqE x f = x := by unfold seqE; rw [if_pos h]
theorem seqE_go {x : Nat × Dk} {f : Dk → Nat × Dk} (h : x.1 = 0) : seqE x f = f x.2 := by unfold seqE; rw [if_neg (by omega)]
def Dk.keep1 (st : Dk) (k : Sn) : Nat × Dk := writesL k.recs 0 st
def Dk.keep2 (st : Dk) (k : Sn) : Nat × Dk := seqE (st.keep1 k) Dk.sync
def Dk.keep3 (st : Dk) (k : Sn) : Nat × Dk := seqE (st.keep2 k) fun st => st.move freshN k.name
theorem keepS_eq (st : Dk) (k : Sn) : st.keepS k = seqE (st.keep3 k) Dk.sync := rfl
def keI (w3 : World) (S C : Nat → Prop) (g : Nat) (st : Dk) (k : Sn) : Nat → World → Prop
 | 0, W => W = w3
 | 1, W => (st.keep1 k).1 = 0 ∧ DPost w3 S C g (st.keep1 k).2 W
 | 2, W => (st.keep2 k).1 = 0 ∧ DPost w3 S C g (st.keep2 k).2 W
 | 3, W => (st.keep3 k).1 = 0 ∧ DPost w3 S C g (st.keep3 k).2 W
 | _, W => (st.keepS k).1 = 0 ∧ DPost w3 S C g (st.keepS k).2 W
def keF (w3 : World) (S C : Nat → Prop) (g : Nat) (st : Dk) (k : Sn) (m : Int) (W : World) : Prop := m = ((st.keepS k).1 : Nat) ∧ DPost w3 S C g (st.keepS k).2 W
set_option maxRecDepth 100000 in
set_option maxHeartbeats 4000000 in
theorem vkeep_any {w : World} {S C : Nat → Prop} {b g sb : Nat} {vo da : Value} {k : Sn} {st : Dk} (h : Vt w b vo da k g) (ho : DiskIs w S C g st) (hbS : ¬ S b) (hsS : ¬ S sb) (hvS : Lies (fun k => ¬ S k ∧ k < w.heap.size) vo k.vo) (hdS : Lies (fun k => ¬ S k ∧ k < w.heap.size) da k.da)
  (hrow : w.heap[sb]? = some (.cells #[StepV (59, #[.pointer (some ⟨b, 0, none⟩)]), StepV (34, #[.pointer (some ⟨g, 0, none⟩)]), StepV (60, #[.pointer (some ⟨b, 0, none⟩)]), StepV (34, #[.pointer (some ⟨g, 0, none⟩)])] 54 (0, 0)))
  (ht : Tab w) (htS : ¬ S tabG) (hx1 : 0 < k.ix) (hx2 : k.ix ≤ 1099511627776)
  {n U : Nat} (hf : st.Fine n U) (hn : n + k.recs.length ≤ 800000) (hvs : k.vo.length ≤ 1000) (hds : k.da.length ≤ 300000) (hrn : k.recs.length ≤ 90000) (hfl : k.file.length ≤ 1000000) :
  Calls Tryz.prog 44 #[.slice (some ⟨sb, 0, none⟩) 4 4] w (AnP w S C g (st.keepS k)) := by
 have hsl := (Array.getElem?_eq_some_iff.1 hrow).1
 have f1 : (st.keep1 k).2.Fine (n + k.recs.length + 1) (U + k.recs.flatten.length) := writesL_fine hf (by omega)
 have f2 : (st.keep2 k).2.Fine (n + k.recs.length + 1) (U + k.recs.flatten.length) := seqE_fine f1 f1.sync (Nat.le_refl _)
 have f3 : (st.keep3 k).2.Fine (n + k.recs.length + 2) (U + k.recs.flatten.length) := seqE_fine (f := fun st => st.move freshN k.name) f2 (f2.move (by omega) freshN k.name) (Nat.le_succ _)
 have hkn : k.name = nameL k.ix := by unfold Sn.name; rw [if_pos hx1]
 have hSY : ∀ (x : Dk) (n' U' : Nat) W, x.Fine n' U' → n' < 1000000 → DPost w S C g x W → Calls Tryz.prog 34 #[.pointer (some ⟨g, 0, none⟩)] W (AnP w S C g x.sync) := fun x n' U' W hfx hn' hp => by
  obtain ⟨S', C', hd, hcg, hS', hC', hback⟩ := hp.go
  have hcal := hfx.calm hn'
  exact (sync_call hd hcal.k1 hcal.k2 hcal.t1 hcal.t2).mono fun e w' h => ⟨h.1, hback _ _ h.2⟩
 have hDO := turnDo_any (w := w) (g := sb) [(59, #[.pointer (some ⟨b, 0, none⟩)]), (34, #[.pointer (some ⟨g, 0, none⟩)]), (60, #[.pointer (some ⟨b, 0, none⟩)]), (34, #[.pointer (some ⟨g, 0, none⟩)])] (by simp) (keI w S C g st k) (keF w S C g st k) rfl
  (by
   intro x hx
   have e1 : ∀ args w, (callFunc 59 args).run Tryz.prog w = .ok (.enter 59 args) w := enters_of Tryz.func59 (by kernel_rfl) rfl
   have e2 : ∀ args w, (callFunc 34 args).run Tryz.prog w = .ok (.enter 34 args) w := enters_of Tryz.func34 (by kernel_rfl) rfl
   have e3 : ∀ args w, (callFunc 60 args).run Tryz.prog w = .ok (.enter 60 args) w := enters_of Tryz.func60 (by kernel_rfl) rfl
   simp only [List.mem_cons, List.not_mem_nil, or_false] at hx
   rcases hx with rfl | rfl | rfl | rfl
   ·exact e1
   ·exact e2
   ·exact e3
   ·exact e2)
  (by
   intro j x W hk hI
   have hr : W.heap[sb]? = w.heap[sb]? := by
    match j, hI with
    | 0, h => rw [show W = w from h]
    | 1, h => exact h.2.cg.block _ (by omega) hsS
    | 2, h => exact h.2.cg.block _ (by omega) hsS
    | 3, h => exact h.2.cg.block _ (by omega) hsS
    | j + 4, h => exact h.2.cg.block _ (by omega) hsS
   rw [cell_of_row W sb j _ _ (0, 0) (hr.trans hrow)]
   match j, hk with
   | 0, hk => simp at hk; rw [← hk]; rfl
   | 1, hk => simp at hk; rw [← hk]; rfl
   | 2, hk => simp at hk; rw [← hk]; rfl
   | 3, hk => simp at hk; rw [← hk]; rfl
   | j + 4, hk => simp at hk)
  (by
   intro j x W hk hI
   match j, hk, hI with
   | 0, hk, hI =>
    simp at hk
    subst hk
    obtain rfl : W = w := hI
    refine (vwrite_any h ho hbS hvS hdS hf (by omega) hvs hds hrn hfl).mono ?_
    rintro e w' ⟨rfl, hp⟩
    refine ⟨_, rfl, fun h => ⟨by unfold Dk.keep1; omega, hp⟩, fun h => ?_⟩
    have hne : (st.keep1 k).1 ≠ 0 := by unfold Dk.keep1; omega
    have ho : st.keepS k = st.keep1 k := by
     have h2 : st.keep2 k = st.keep1 k := seqE_stop hne
     have h3 : st.keep3 k = st.keep1 k := by unfold Dk.keep3; rw [h2]; exact seqE_stop hne
     rw [keepS_eq, h3]; exact seqE_stop hne
    exact ⟨by rw [ho]; rfl, by rw [ho]; exact hp⟩
   | 1, hk, hI =>
    simp at hk
    subst hk
    refine (hSY _ _ _ W f1 (by omega) hI.2).mono ?_
    rintro e w' ⟨rfl, hp⟩
    have h2 : st.keep2 k = (st.keep1 k).2.sync := seqE_go hI.1
    refine ⟨_, rfl, fun h => ⟨by rw [h2]; omega, by rw [h2]; exact hp⟩, fun h => ?_⟩
    have hne : (st.keep2 k).1 ≠ 0 := by rw [h2]; omega
    have ho : st.keepS k = st.keep2 k := by
     have h3 : st.keep3 k = st.keep2 k := seqE_stop hne
     rw [keepS_eq, h3]; exact seqE_stop hne
    exact ⟨by rw [ho, h2], by rw [ho, h2]; exact hp⟩
   | 2, hk, hI =>
    simp at hk
    subst hk
    obtain ⟨S', C', hd, hcg, hS', hC', hback⟩ := hI.2.go
    have hb' : ¬ S' b := fun h' => by
     rcases hS' b h' with h' | h'
     ·exact hbS h'
     ·have := h.lt; omega
    refine (vname_any (hcg.cell h.c0 hbS) (hcg.cell h.c4 hbS) hx1 hx2 hd hb' (ht.chg hcg htS) f2 (by omega)).mono ?_
    rintro e w' ⟨rfl, hp⟩
    have h3 : st.keep3 k = (st.keep2 k).2.move freshN (nameL k.ix) := by unfold Dk.keep3; rw [seqE_go hI.1, hkn]
    refine ⟨_, rfl, fun h => ⟨by rw [h3]; omega, by rw [h3]; exact hback _ _ hp⟩, fun h => ?_⟩
    have hne : (st.keep3 k).1 ≠ 0 := by rw [h3]; omega
    have ho : st.keepS k = st.keep3 k := by rw [keepS_eq]; exact seqE_stop hne
    exact ⟨by rw [ho, h3], by rw [ho, h3]; exact hback _ _ hp⟩
   | 3, hk, hI =>
    simp at hk
    subst hk
    refine (hSY _ _ _ W f3 (by omega) hI.2).mono ?_
    rintro e w' ⟨rfl, hp⟩
    have h4 : st.keepS k = (st.keep3 k).2.sync := by rw [keepS_eq]; exact seqE_go hI.1
    exact ⟨_, rfl, fun h => ⟨by rw [h4]; omega, by rw [h4]; exact hp⟩, fun h => ⟨by rw [h4], by rw [h4]; exact hp⟩⟩
   | j + 4, hk, hI => simp at hk)
 refine hDO.mono ?_
 rintro e w' ⟨m, rfl, h0, h1⟩
 by_cases hm : m = 0
 ·obtain ⟨h2, h3⟩ : (st.keepS k).1 = 0 ∧ DPost w S C g (st.keepS k).2 w' := h0 hm
  exact ⟨by rw [hm, h2]; rfl, h3⟩
 ·obtain ⟨h2, h3⟩ : m = ((st.keepS k).1 : Nat) ∧ DPost w S C g (st.keepS k).2 w' := h1 hm
  exact ⟨by rw [h2], h3⟩
end Go.Proofs.YtgbdjcekpdfpjaaGreatDoor
