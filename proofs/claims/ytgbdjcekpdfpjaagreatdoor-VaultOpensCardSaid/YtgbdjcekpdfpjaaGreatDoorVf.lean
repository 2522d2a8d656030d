/- Several texts made one. -/
import Derived.Test.YtgbdjcekpdfpjaaGreatDoorVSave
import Derived.Test.YtgbdjcekpdfpjaaGreatDoorVc
set_option linter.unusedVariables false
set_option linter.unusedSimpArgs false
namespace Go.Proofs.YtgbdjcekpdfpjaaGreatDoor
open Go.RowKit
theorem ns_same {w : World} {v : Value} {l l' : List Int} (h : Ns w v l) (h' : Ns w v l') : l = l' := by
 obtain ⟨p, c, rfl, h1, h2, h3, h4, h5⟩ := h
 obtain ⟨p', c', e, k1, k2, k3, k4, k5⟩ := h'
 injection e with e1 e2 e3
 subst e1
 by_cases h0 : 0 < l.length
 ·obtain ⟨g, o, ep, hc⟩ := h5 h0
  obtain ⟨g', o', ep', hc'⟩ := k5 (by omega)
  rw [ep] at ep'
  injection ep' with ep'
  injection ep' with a1 a2
  subst a1 a2
  apply List.ext_getElem e2
  intro i hi hi'
  have q1 := hc i l[i] (List.getElem?_eq_getElem hi)
  have q2 := hc' i l'[i] (List.getElem?_eq_getElem hi')
  rw [q1] at q2
  injection q2 with q2
  injection q2
 ·rw [List.eq_nil_of_length_eq_zero (by omega : l.length = 0), List.eq_nil_of_length_eq_zero (by omega : l'.length = 0)]
theorem by_same {w : World} {v : Value} {l l' : List UInt8} (h : By w v l) (h' : By w v l') : l = l' := by
 obtain ⟨p, c, rfl, h1, h2, h3, h4⟩ := h
 obtain ⟨p', c', e, k1, k2, k3, k4⟩ := h'
 injection e with e1 e2 e3
 subst e1
 apply List.ext_getElem e2
 intro i hi hi'
 cases p with
 | none => have := h3 rfl; omega
 | some a =>
  have q1 := h4 a rfl i l[i] (List.getElem?_eq_getElem hi)
  have q2 := k4 a rfl i l'[i] (List.getElem?_eq_getElem hi')
  rw [q1] at q2
  injection q2 with q2
  unfold bv at q2
  injection q2 with q2 q3
  exact UInt8.toNat_inj.1 (by omega)
structure Vo (w0 w : World) (K : Nat → Prop) (b g : Nat) (s : Sn) (st : Dk) : Prop where
 below : Below w0.heap.size w0 w
 parts : ∃ S C vo da, Va w S C b g s st ∧ Vt w b vo da s g ∧ Lies (fun k => w0.heap.size ≤ k ∧ ¬ K k ∧ k < w.heap.size) vo s.vo ∧ Lies (fun k => w0.heap.size ≤ k ∧ ¬ K k ∧ k < w.heap.size) da s.da ∧
  w0.heap.size ≤ b ∧ ¬ K b ∧ (∀ i, S i → w0.heap.size ≤ i) ∧ ∀ i, K i → ¬ S i ∧ ¬ C i ∧ i < w.heap.size
section
variable {w0 w : World} {K : Nat → Prop} {b g : Nat} {s : Sn} {st : Dk}
theorem Vt.uniq {w : World} {b g : Nat} {vo da vo' da' : Value} {s : Sn} (h : Vt w b vo da s g) (h' : Vt w b vo' da' s g) : vo = vo' ∧ da = da' := by
 have h1 := h.c2.symm.trans h'.c2
 have h2 := h.c3.symm.trans h'.c3
 exact ⟨Option.some.inj h1, Option.some.inj h2⟩
theorem Vt.same {w : World} {b g : Nat} {vo da vo' da' : Value} {s s' : Sn} (h : Vt w b vo da s g) (h' : Vt w b vo' da' s' g) : vo = vo' ∧ da = da' := by
 have h1 := h.c2.symm.trans h'.c2
 have h2 := h.c3.symm.trans h'.c3
 exact ⟨Option.some.inj h1, Option.some.inj h2⟩
theorem Vo.new (h : Vo w0 w K b g s st) {w' : World} (hc : Chg w w' (fun _ => False)) {N : Nat → Prop} (hN : ∀ i, N i → w.heap.size ≤ i ∧ i < w'.heap.size) : Vo w0 w' (fun i => K i ∨ N i) b g s st := by
 obtain ⟨S, C, vo, da, h1, h2, h3, h4, h5, h6, h7, h8⟩ := h.parts
 have hsz := hc.size
 have hl : ∀ k, (w0.heap.size ≤ k ∧ ¬ K k ∧ k < w.heap.size) → w0.heap.size ≤ k ∧ ¬ (K k ∨ N k) ∧ k < w'.heap.size := fun k hk => ⟨hk.1, fun h => h.elim hk.2.1 (fun h => by have := hN k h; omega), by omega⟩
 refine ⟨Chg.to_below h.below hc fun _ h => h.elim, S, C, vo, da, h1.chg hc, ⟨(hc.block b h2.lt (fun h => h)).trans h2.row, h2.ns.chg hc (h3.mono fun _ _ h => h), h2.by_.chg hc (h4.mono fun _ _ h => h), h2.f0, h2.f1⟩, h3.mono hl, h4.mono hl, h5, fun hk => hk.elim h6 fun hk => by have := hN b hk; have := h2.lt; omega, h7, fun i hi => ?_⟩
 rcases hi with hi | hi
 ·obtain ⟨a, b, c⟩ := h8 i hi
  exact ⟨a, b, by omega⟩
 ·obtain ⟨a, b⟩ := hN i hi
  exact ⟨fun h => by have := h1.di.sap i h; omega, fun h => by have := h1.di.cap i h; omega, b⟩
theorem Vo.at (h : Vo w0 w K b g s st) {w' : World} (hc : Chg w w' (fun _ => False)) : Vo w0 w' K b g s st := by
 have := h.new hc (N := fun _ => False) (fun i h => h.elim)
 obtain ⟨S, C, vo, da, h1, h2, h3, h4, h5, h6, h7, h8⟩ := this.parts
 exact ⟨this.below, S, C, vo, da, h1, h2, h3.mono fun k hk => ⟨hk.1, fun h => hk.2.1 (.inl h), hk.2.2⟩, h4.mono fun k hk => ⟨hk.1, fun h => hk.2.1 (.inl h), hk.2.2⟩, h5, fun h => h6 (.inl h), h7, fun i hi => h8 i (.inl hi)⟩
theorem Vo.mut (h : Vo w0 w K b g s st) {w' : World} (hc : Chg w w' K) (hK : ∀ i, K i → w0.heap.size ≤ i) : Vo w0 w' K b g s st := by
 obtain ⟨S, C, vo, da, h1, h2, h3, h4, h5, h6, h7, h8⟩ := h.parts
 have hsz := hc.size
 have hl : ∀ k, (w0.heap.size ≤ k ∧ ¬ K k ∧ k < w.heap.size) → ¬ K k := fun k hk => hk.2.1
 have hl' : ∀ k, (w0.heap.size ≤ k ∧ ¬ K k ∧ k < w.heap.size) → w0.heap.size ≤ k ∧ ¬ K k ∧ k < w'.heap.size := fun k hk => ⟨hk.1, hk.2.1, by omega⟩
 have hvt : Vt w' b vo da s g := ⟨(hc.block b h2.lt h6).trans h2.row, h2.ns.chg hc (h3.mono hl), h2.by_.chg hc (h4.mono hl), h2.f0, h2.f1⟩
 obtain ⟨vo', da', k1, k2, k3⟩ := h1.vt
 obtain ⟨rfl, rfl⟩ := h2.uniq k1
 exact ⟨Chg.to_below h.below hc hK, S, C, vo, da, ⟨h1.di.chg hc (fun i hi hk => (h8 i hk).1 hi) (fun i hi hk => (h8 i hk).2.1 hi), h1.nb, vo, da, hvt, k2.mono fun k hk => ⟨hk.1, hk.2.1, by omega⟩, k3.mono fun k hk => ⟨hk.1, hk.2.1, by omega⟩⟩, hvt, h3.mono hl', h4.mono hl', h5, h6, h7, fun i hi => ⟨(h8 i hi).1, (h8 i hi).2.1, by have := (h8 i hi).2.2; omega⟩⟩
theorem Vo.disk (h : Vo w0 w K b g s st) : ∃ S C, DiskIs w S C g st ∧ ∀ st' w', DPost w S C g st' w' → Vo w0 w' K b g s st' ∧ Chg w w' (fun i => ¬ K i ∧ w0.heap.size ≤ i) := by
 obtain ⟨S, C, vo, da, h1, h2, h3, h4, h5, h6, h7, h8⟩ := h.parts
 refine ⟨S, C, h1.di, fun st' w' hp => ?_⟩
 have hb := SvP.stay (m := 0) h1 (Chg.refl _ _) hp
 have hcg := hp.cg
 have hsz := hcg.size
 have hbs := h.below.size
 obtain ⟨_, S', C', k1, k2, k3, k4, vo', da', k5, k6⟩ := hb
 obtain ⟨hvo, hda⟩ : vo' = vo ∧ da' = da := by
  rcases k6 with ⟨a, c, k7, rfl, rfl⟩ | ⟨k7, k8⟩
  ·exact k7.uniq h2
  ·have := h1.nb.1
   have e : w'.heap[b]? = w.heap[b]? := hcg.block b h2.lt h1.nb.1
   have r1 := k5.row
   rw [e, h2.row] at r1
   injection r1 with r1
   injection r1 with r1 _ _
   injection r1 with r1
   injection r1 with _ r1
   injection r1 with _ r1
   injection r1 with r2 r1
   injection r1 with r3 r1
   exact ⟨r2.symm, r3.symm⟩
 subst hvo hda
 have hl' : ∀ k, (w0.heap.size ≤ k ∧ ¬ K k ∧ k < w.heap.size) → w0.heap.size ≤ k ∧ ¬ K k ∧ k < w'.heap.size := fun k hk => ⟨hk.1, hk.2.1, by omega⟩
 refine ⟨⟨Chg.to_below h.below hcg h7, S', C', vo', da', k1, k5, h3.mono hl', h4.mono hl', h5, h6, fun i hi => ?_, fun i hi => ⟨fun hs => ?_, fun hs => ?_, by have := (h8 i hi).2.2; omega⟩⟩, hcg.mono' fun i hi => ⟨fun hk => (h8 i hk).1 hi, h7 i hi⟩⟩
 ·rcases k3 i hi with h | h
  ·exact h7 i h
  ·omega
 ·rcases k3 i hs with h | h
  ·exact (h8 i hi).1 h
  ·have := (h8 i hi).2.2; omega
 ·rcases k4 i hs with h | h
  ·exact (h8 i hi).2.1 h
  ·have := (h8 i hi).2.2; omega
def VoR (w0 w : World) (K : Nat → Prop) (b g : Nat) (x : Nat × Sn × Dk) (e : Ending) (w' : World) : Prop :=
 e = .returned (.int .i64 (x.1 : Nat)) ∧ Vo w0 w' K b g x.2.1 x.2.2 ∧ Chg w w' (fun i => ¬ K i ∧ w0.heap.size ≤ i)
theorem Vo.save (h : Vo w0 w K b g s st) {k : Sn} {kv : Value} (hk : SnV w kv k) (ht : Tab w0) (hsx : 0 ≤ s.ix ∧ s.ix ≤ 1099511627776) {n U : Nat} (hf : st.Fine n U) (hn : n + k.recs.length ≤ 800000) (hvs : k.vo.length ≤ 1000) (hds : k.da.length ≤ 300000) (hrn : k.recs.length ≤ 90000) (hfl : k.file.length ≤ 1000000) :
  Calls Tryz.prog 22 #[.pointer (some ⟨b, 0, none⟩), kv] w (VoR w0 w K b g (saveL s st k)) := by
 obtain ⟨S, C, vo, da, h1, h2, h3, h4, h5, h6, h7, h8⟩ := h.parts
 have htl := ht.lt
 refine (vsave_any h1 hk (ht.below h.below htl) (fun h => by have := h7 _ h; omega) (by omega) hsx hf hn hvs hds hrn hfl).mono ?_
 rintro e w' ⟨rfl, S', C', k1, k2, k3, k4, vo', da', k5, k6⟩
 have hsz := k2.size
 have hbs := h.below.size
 have hl' : ∀ k, (w0.heap.size ≤ k ∧ ¬ K k ∧ k < w.heap.size) → w0.heap.size ≤ k ∧ ¬ K k ∧ k < w'.heap.size := fun k hk => ⟨hk.1, hk.2.1, by omega⟩
 obtain ⟨vo'', da'', j1, j2, j3⟩ := k1.vt
 obtain ⟨rfl, rfl⟩ := k5.uniq j1
 have hKl : ∀ k, K k → k < w.heap.size := fun k hk => (h8 k hk).2.2
 have hlies : Lies (fun k => w0.heap.size ≤ k ∧ ¬ K k ∧ k < w'.heap.size) vo' (saveL s st k).2.1.vo ∧ Lies (fun k => w0.heap.size ≤ k ∧ ¬ K k ∧ k < w'.heap.size) da' (saveL s st k).2.1.da := by
  have mix : ∀ {α : Type} {v : Value} {l : List α}, Lies (fun k => w.heap.size ≤ k) v l → Lies (fun k => ¬ S' k ∧ k ≠ b ∧ k < w'.heap.size) v l → Lies (fun k => w0.heap.size ≤ k ∧ ¬ K k ∧ k < w'.heap.size) v l := fun a c => by
   rcases a with a | a
   ·exact .inl a
   ·rcases c with c | c
    ·exact .inl c
    ·exact .inr fun k hk => ⟨by have := a k hk; omega, fun h => by have := hKl k h; have := a k hk; omega, (c k hk).2.2⟩
  rcases k6 with ⟨a, c, k7, rfl, rfl⟩ | ⟨k7, k8⟩
  ·obtain ⟨e1, e2⟩ := Vt.same k7 h2
   subst e1 e2
   have e3 : (saveL s st k).2.1 = s ∨ (saveL s st k).2.1 = k := by
    unfold saveL
    split
    ·exact .inl rfl
    ·split
     ·exact .inl rfl
     ·split
      ·exact .inl rfl
      ·split
       ·exact .inr rfl
       ·exact .inr rfl
   have l1 : ((saveL s st k).2.1.vo = s.vo) ∧ ((saveL s st k).2.1.da = s.da) := by
    have n1 := ns_same k7.ns h2.ns
    have n2 := by_same k7.by_ h2.by_
    exact ⟨n1, n2⟩
   rw [l1.1, l1.2]
   exact ⟨h3.mono hl', h4.mono hl'⟩
  ·exact ⟨mix k7 j2, mix k8 j3⟩
 refine ⟨rfl, ⟨Chg.to_below h.below k2 fun k hk => hk.elim (h7 k) fun e => by omega, S', C', vo', da', k1, k5, hlies.1, hlies.2, h5, h6, fun i hi => ?_, fun i hi => ⟨fun hs => ?_, fun hs => ?_, by have := (h8 i hi).2.2; omega⟩⟩, k2.mono' fun i hi => ?_⟩
 ·rcases k3 i hi with h | h
  ·exact h7 i h
  ·omega
 ·rcases k3 i hs with h | h
  ·exact (h8 i hi).1 h
  ·have := hKl i hi; omega
 ·rcases k4 i hs with h | h
  ·exact (h8 i hi).2.1 h
  ·have := hKl i hi; omega
 ·rcases hi with hi | rfl
  ·exact ⟨fun hk => (h8 i hk).1 hi, h7 i hi⟩
  ·exact ⟨h6, h5⟩
def VnP (w0 w : World) (K : Nat → Prop) (g : Nat) (st : Dk) (e : Ending) (w' : World) : Prop :=
 (st.openV.1 ≠ 0 ∧ e = .returned (.tuple #[.pointer none, .int .i64 (st.openV.1 : Nat)])) ∨
 (st.openV.1 = 0 ∧ ∃ b, e = .returned (.tuple #[.pointer (some ⟨b, 0, none⟩), .int .i64 0]) ∧ Vo w0 w' K b g st.found st.openV.2 ∧ Chg w w' (fun i => ¬ K i ∧ w0.heap.size ≤ i))
theorem open_disk {S C : Nat → Prop} (hd : DiskIs w S C g st) (hb0 : Below w0.heap.size w0 w) (h7 : ∀ i, S i → w0.heap.size ≤ i) (h8 : ∀ i, K i → ¬ S i ∧ ¬ C i ∧ i < w.heap.size) (ht : Tab w0) {n U : Nat} (hf : st.Fine n U) (hn : n ≤ 800000) (hU : U ≤ 900000) :
  Calls Tryz.prog 15 #[.pointer (some ⟨g, 0, none⟩)] w (VnP w0 w K g st) := by
 have htl := ht.lt
 refine (vopen_any hd (ht.below hb0 htl) (fun h => by have := h7 _ h; omega) hf hn hU).mono ?_
 rintro e w' (⟨k1, k2, k3⟩ | ⟨k1, b, S', C', rfl, k2, k3, k4, k5, k6, vo, da, k7, k8, k9⟩)
 ·exact .inl ⟨k1, k2⟩
 ·have hbs := hb0.size
  have hsz := k4.size
  obtain ⟨vo'', da'', j1, j2, j3⟩ := k2.vt
  obtain ⟨rfl, rfl⟩ := k7.uniq j1
  have mix : ∀ {α : Type} {v : Value} {l : List α}, Lies (fun k => w.heap.size ≤ k) v l → Lies (fun k => ¬ S' k ∧ k ≠ b ∧ k < w'.heap.size) v l → Lies (fun k => w0.heap.size ≤ k ∧ ¬ K k ∧ k < w'.heap.size) v l := fun a c => by
   rcases a with a | a
   ·exact .inl a
   ·rcases c with c | c
    ·exact .inl c
    ·exact .inr fun k hk => ⟨by have := a k hk; omega, fun h => by have := (h8 k h).2.2; have := a k hk; omega, (c k hk).2.2⟩
  refine .inr ⟨k1, b, rfl, ⟨Chg.to_below hb0 k4 h7, S', C', vo, da, k2, k7, mix k8 j2, mix k9 j3, by omega, fun h => by have := (h8 b h).2.2; omega, fun i hi => ?_, fun i hi => ⟨fun hs => ?_, fun hs => ?_, by have := (h8 i hi).2.2; omega⟩⟩, k4.mono' fun i hi => ⟨fun hk => (h8 i hk).1 hi, h7 i hi⟩⟩
  ·rcases k5 i hi with h | h
   ·exact h7 i h
   ·omega
  ·rcases k5 i hs with h | h
   ·exact (h8 i hi).1 h
   ·have := (h8 i hi).2.2; omega
  ·rcases k6 i hs with h | h
   ·exact (h8 i hi).2.1 h
   ·have := (h8 i hi).2.2; omega
theorem Vo.open (h : Vo w0 w K b g s st) (ht : Tab w0) {n U : Nat} (hf : st.Fine n U) (hn : n ≤ 800000) (hU : U ≤ 900000) : Calls Tryz.prog 15 #[.pointer (some ⟨g, 0, none⟩)] w (VnP w0 w K g st) := by
 obtain ⟨S, C, vo, da, h1, h2, h3, h4, h5, h6, h7, h8⟩ := h.parts
 exact open_disk h1.di h.below h7 h8 ht hf hn hU
theorem Vo.vt (h : Vo w0 w K b g s st) : ∃ vo da, Vt w b vo da s g := by
 obtain ⟨S, C, vo, da, h1, h2, _⟩ := h.parts
 exact ⟨vo, da, h2⟩
end
end Go.Proofs.YtgbdjcekpdfpjaaGreatDoor
namespace Go.Proofs.YtgbdjcekpdfpjaaGreatDoor
open Go.RowKit
def SmP (w : World) (a b : Sn) (e : Ending) (w' : World) : Prop := e = .returned (.bool (decide (a = b))) ∧ Below w.heap.size w w'
theorem sn_ext {a b : Sn} (h1 : a.ix = b.ix) (h2 : a.tm = b.tm) (h3 : a.vo = b.vo) (h4 : a.da = b.da) : a = b := by
 cases a; cases b; simp_all
set_option maxRecDepth 100000 in
set_option maxHeartbeats 4000000 in
theorem same_any {w : World} {va vb : Value} {a b : Sn} (ha : SnV w va a) (hb : SnV w vb b) (hvl : a.vo.length ≤ 1000000000) : Calls Tryz.prog 24 #[va, vb] w (SmP w a b) := by
 obtain ⟨vo, da, rfl, hn, hy, hf0, hf1⟩ := ha
 obtain ⟨vo', da', rfl, hn', hy', hf0', hf1'⟩ := hb
 obtain ⟨p2, n2, c2, rfl⟩ := hn.sl
 obtain ⟨p3, n3, c3, rfl⟩ := hy.sl
 obtain ⟨q2, m2, d2, rfl⟩ := hn'.sl
 obtain ⟨q3, m3, d3, rfl⟩ := hy'.sl
 obtain ⟨X, hX⟩ : ∃ X, (w.alloc (.cells #[.int .i64 a.ix, .int .i64 a.tm, .slice p2 n2 c2, .slice p3 n3 c3] 42)).alloc (.cells #[.int .i64 b.ix, .int .i64 b.tm, .slice q2 m2 d2, .slice q3 m3 d3] 42) = X := ⟨_, rfl⟩
 have hbX : Below w.heap.size w X := by rw [← hX]; exact balloc (balloc (Below.refl _ _) _) _
 have hrA : X.heap[w.heap.size]? = some (.cells #[.int .i64 a.ix, .int .i64 a.tm, .slice p2 n2 c2, .slice p3 n3 c3] 42 (0, 0)) := by
  rw [← hX]; exact (Below.heap_alloc _ _ _ (by simp)).trans Array.getElem?_push_size
 have hrB : X.heap[w.heap.size + 1]? = some (.cells #[.int .i64 b.ix, .int .i64 b.tm, .slice q2 m2 d2, .slice q3 m3 d3] 42 (0, 0)) := by
  rw [← hX]
  have := World.alloc_heap_new (w.alloc (.cells #[.int .i64 a.ix, .int .i64 a.tm, .slice p2 n2 c2, .slice p3 n3 c3] 42)) (.cells #[.int .i64 b.ix, .int .i64 b.tm, .slice q2 m2 d2, .slice q3 m3 d3] 42)
  simpa using this
 have a0 : X.cell? ⟨w.heap.size, 0, none⟩ = some (.int .i64 a.ix) := by rw [cell_of_row X _ 0 _ _ (0, 0) hrA]; rfl
 have a1 : X.cell? ⟨w.heap.size, 1, none⟩ = some (.int .i64 a.tm) := by rw [cell_of_row X _ 1 _ _ (0, 0) hrA]; rfl
 have a2 : X.cell? ⟨w.heap.size, 2, none⟩ = some (.slice p2 n2 c2) := by rw [cell_of_row X _ 2 _ _ (0, 0) hrA]; rfl
 have a3 : X.cell? ⟨w.heap.size, 3, none⟩ = some (.slice p3 n3 c3) := by rw [cell_of_row X _ 3 _ _ (0, 0) hrA]; rfl
 have b0 : X.cell? ⟨w.heap.size + 1, 0, none⟩ = some (.int .i64 b.ix) := by rw [cell_of_row X _ 0 _ _ (0, 0) hrB]; rfl
 have b1 : X.cell? ⟨w.heap.size + 1, 1, none⟩ = some (.int .i64 b.tm) := by rw [cell_of_row X _ 1 _ _ (0, 0) hrB]; rfl
 have b2 : X.cell? ⟨w.heap.size + 1, 2, none⟩ = some (.slice q2 m2 d2) := by rw [cell_of_row X _ 2 _ _ (0, 0) hrB]; rfl
 have b3 : X.cell? ⟨w.heap.size + 1, 3, none⟩ = some (.slice q3 m3 d3) := by rw [cell_of_row X _ 3 _ _ (0, 0) hrB]; rfl
 have cA := conv_at (hy.below hbX)
 have cB := conv_at (hy'.below hbX)
 have HBX := hide hbX
 have HNA := hide (hn.below hbX)
 have HNB := hide (hn'.below hbX)
 have HX := hide hX
 have hs3 : ((str a.da).toList == (str b.da).toList) = decide (a.da = b.da) := str_beq _ _
 have hn2 : n2 = a.vo.length := hn.len.1
 have hm2 : m2 = b.vo.length := hn'.len.1
 clear hn hn' hy hy' hbX hrA hrB
 by_cases h1 : a.ix = b.ix
 ·have e1 : (a.ix != b.ix) = false := by simpa using h1
  have H1 := hide h1
  clear h1
  by_cases h2 : a.tm = b.tm
  ·have e2 : (a.tm != b.tm) = false := by simpa using h2
   have H2 := hide h2
   clear h2
   by_cases h3 : a.da = b.da
   ·have e3 : ((str a.da).toList == (str b.da).toList) = true := by rw [hs3]; exact decide_eq_true h3
    have e3' : ((str a.da).toList != (str b.da).toList) = false := by simp only [bne, e3]; rfl
    have H3 := hide h3
    clear h3
    by_cases h4 : n2 = m2
    ·subst h4
     have HH := hide (And.intro H1.out (And.intro H2.out H3.out))
     have HN2 := hide hn2
     have HM2 := hide hm2
     have hnb : n2 ≤ 1000000000 := by omega
     clear hn2 hm2 hs3
     go_enter Tryz.func24, Tryz.ntmps24
     go_wp2
     go_loopw [39] (fun v wr => ∃ (i q : Nat), i ≤ n2 ∧ v = .int .i64 i ∧ wr = X.drewN q ∧ a.vo.take i = b.vo.take i) (fun v _ => n2 - (intOf v).toNat)
     case atStart => exact ⟨0, 0, Nat.zero_le _, rfl, rfl, by simp⟩
     case round =>
      obtain ⟨i, q, hi, rfl, rfl, htk⟩ := hrel
      by_cases hlt : i < n2
      ·have e9 : decide ((i : Int) < (n2 : Int)) = true := by simpa using hlt
       obtain ⟨pa, ca, ea, _, _, _, _, hca⟩ := HNA.out
       injection ea with ea1 ea2 ea3
       obtain ⟨ga, oa, rfl, hca2⟩ := hca (by have := HN2.out; omega)
       obtain ⟨pb, cb, eb, _, _, _, _, hcb⟩ := HNB.out
       injection eb with eb1 eb2 eb3
       obtain ⟨gb, ob, rfl, hcb2⟩ := hcb (by have := HM2.out; omega)
       subst ea1 eb1
       clear ea2 ea3 eb2 eb3
       have hia : a.vo[i]? = some (a.vo[i]'(by have := HN2.out; omega)) := List.getElem?_eq_getElem _
       have hib : b.vo[i]? = some (b.vo[i]'(by have := HM2.out; omega)) := List.getElem?_eq_getElem _
       obtain ⟨x, hx⟩ : ∃ x, a.vo[i]? = some x := ⟨_, hia⟩
       obtain ⟨y, hy⟩ : ∃ y, b.vo[i]? = some y := ⟨_, hib⟩
       have qa : ∀ q, (X.drewN q).cell? ⟨ga, oa + i, none⟩ = some (.int .i64 x) := fun q => hca2 i x hx
       have qb : ∀ q, (X.drewN q).cell? ⟨gb, ob + i, none⟩ = some (.int .i64 y) := fun q => hcb2 i y hy
       have q2 : ∀ q, (X.drewN q).cell? ⟨w.heap.size, 2, none⟩ = some (.slice (some ⟨ga, oa, none⟩) n2 c2) := fun q => a2
       have q2' : ∀ q, (X.drewN q).cell? ⟨w.heap.size + 1, 2, none⟩ = some (.slice (some ⟨gb, ob, none⟩) n2 d2) := fun q => b2
       have HTK := hide htk
       have HXY := hide (And.intro hx hy)
       clear hia hib hca hcb hca2 hcb2 htk hx hy HNA HNB
       by_cases hxy : x = y
       ·have e5 : (x != y) = false := by simpa using hxy
        go_wp2_with fail
        go_quiet (fail)
        go_wp2_with fail
        go_roundw
        case rel => exact ⟨i + 1, _, by omega, by go_num, rfl, by rw [List.take_add_one, List.take_add_one, HXY.out.1, HXY.out.2, HTK.out, hxy]⟩
        case measure => simp [intOf] <;> omega
       ·have e5 : (x != y) = true := by simpa using hxy
        go_wp2_with fail
        go_quiet (fail)
        go_wp2_with fail
        go_ret
        have hne : decide (a = b) = false := decide_eq_false (fun e => hxy (by have h1 := HXY.out.1; have h2 := HXY.out.2; rw [e, h2] at h1; exact (Option.some.inj h1).symm))
        exact ⟨by show Ending.returned (Value.bool false) = Ending.returned (Value.bool (decide (a = b))); rw [hne], by first | exact below_drewN HBX.out _ | exact below_drewN (below_drewN HBX.out _) _⟩
      ·obtain rfl : i = n2 := by omega
       have e9 : decide ((i : Int) < (i : Int)) = false := by simp
       have heq : a = b := sn_ext HH.out.1 HH.out.2.1 (by rw [HN2.out] at htk; have h2 := HM2.out; rw [HN2.out] at h2; rw [List.take_length] at htk; rw [h2, List.take_length] at htk; exact htk) HH.out.2.2
       have HEQ := hide (decide_eq_true heq)
       clear heq htk
       go_wp2
       go_ret
       exact ⟨by show Ending.returned (Value.bool true) = Ending.returned (Value.bool (decide (a = b))); rw [HEQ.out], below_drewN HBX.out _⟩
    ·have e4 : ((n2 : Int) != (m2 : Int)) = true := by simp; omega
     have h4' : ¬ a = b := fun e => h4 (by rw [hn2, hm2, e])
     have hne : decide (a = b) = false := decide_eq_false (fun e => h4' e)
     have HNE := hide hne
     clear hn2 hm2 hne hs3
     go_enter Tryz.func24, Tryz.ntmps24
     go_wp2
     go_ret
     exact ⟨by show Ending.returned (Value.bool false) = Ending.returned (Value.bool (decide (a = b))); rw [HNE.out], HBX.out⟩
   ·have e3 : ((str a.da).toList == (str b.da).toList) = false := by rw [hs3]; exact decide_eq_false h3
    have e3' : ((str a.da).toList != (str b.da).toList) = true := by simp only [bne, e3]; rfl
    have hne : decide (a = b) = false := decide_eq_false (fun e => h3 (by rw [e]))
    have HNE := hide hne
    clear hn2 hm2 hne hs3
    go_enter Tryz.func24, Tryz.ntmps24
    go_wp2
    go_ret
    exact ⟨by show Ending.returned (Value.bool false) = Ending.returned (Value.bool (decide (a = b))); rw [HNE.out], HBX.out⟩
  ·have e2 : (a.tm != b.tm) = true := by simpa using h2
   have hne : decide (a = b) = false := decide_eq_false (fun e => h2 (by rw [e]))
   have HNE := hide hne
   clear hn2 hm2 hne hs3
   go_enter Tryz.func24, Tryz.ntmps24
   go_wp2
   go_ret
   exact ⟨by show Ending.returned (Value.bool false) = Ending.returned (Value.bool (decide (a = b))); rw [HNE.out], HBX.out⟩
 ·have e1 : (a.ix != b.ix) = true := by simpa using h1
  have hne : decide (a = b) = false := decide_eq_false (fun e => h1 (by rw [e]))
  have HNE := hide hne
  clear hn2 hm2 hne hs3
  go_enter Tryz.func24, Tryz.ntmps24
  go_wp2
  go_ret
  exact ⟨by show Ending.returned (Value.bool false) = Ending.returned (Value.bool (decide (a = b))); rw [HNE.out], HBX.out⟩
end Go.Proofs.YtgbdjcekpdfpjaaGreatDoor
