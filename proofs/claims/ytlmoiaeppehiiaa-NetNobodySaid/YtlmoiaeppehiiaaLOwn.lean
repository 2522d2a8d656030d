/- Entries with bytes of their own. -/
import Derived.Test.YtlmoiaeppehiiaaLBase
namespace Go.Proofs.Ytlmoiaeppehiiaa
set_option linter.unusedVariables false
set_option linter.unusedSimpArgs false
open Go.RowKit

theorem Own.grown {B : Nat} {w w' : World} {p : Option Addr} {n c : Nat} {l : List UInt8} {row : Option Nat} (h : Own B w (.slice p n c) l) (hg : w.grownBy w' row) (hne : c = 0 ∨ ∀ k, (Value.slice p n c).ownBlock = some k → row ≠ some k) : Own B w' (.slice p n c) l := by
  rcases h with ⟨e, h⟩ | ⟨g, cap, e, hB, hl, hm, hc, hs, hf⟩
  · exact .inl ⟨e, h⟩
  · injection e with e1 e2 e3
    subst e1 e2 e3
    rcases hne with h0 | hne
    · subst h0
      exact .inr ⟨g, 0, rfl, hB, hl, hm, fun i x hx => by simp at hl; subst hl; simp at hx, fun i hi => by omega, fun i hi => by omega⟩
    · have hn := hne g rfl
      by_cases h0 : c = 0
      · subst h0
        exact .inr ⟨g, 0, rfl, hB, hl, hm, fun i x hx => by simp at hl; subst hl; simp at hx, fun i hi => by omega, fun i hi => by omega⟩
      · have hlt : g < w.heap.size := by
          obtain ⟨u, hu⟩ := Option.isSome_iff_exists.1 (hs 0 (by omega))
          exact lt_of_cell hu
        have hblk := hg.block g hlt (fun e => hn e.symm)
        have hcell : ∀ i, w'.cell? ⟨g, i, none⟩ = w.cell? ⟨g, i, none⟩ := fun i => by unfold World.cell?; simp only [hblk]
        have hfro : ∀ i, w'.frozen? ⟨g, i, none⟩ = w.frozen? ⟨g, i, none⟩ := fun i => by unfold World.frozen?; simp only [hblk]
        exact .inr ⟨g, c, rfl, hB, hl, hm, fun i x hx => by rw [hcell]; exact hc i x hx, fun i hi => by rw [hcell]; exact hs i hi, fun i hi => by rw [hfro]; exact hf i hi⟩
theorem Own.far {B : Nat} {w : World} {p : Option Addr} {n c : Nat} {l : List UInt8} (h : Own B w (.slice p n c) l) : c = 0 ∨ ∃ g, p = some ⟨g, 0, none⟩ ∧ B ≤ g ∧ g < w.heap.size := by
  rcases h with ⟨e, h⟩ | ⟨g, cap, e, hB, hl, hm, hc, hs, hf⟩
  · injection e with e1 e2 e3
    exact .inl e3
  · injection e with e1 e2 e3
    subst e1 e2 e3
    by_cases h0 : c = 0
    · exact .inl h0
    · obtain ⟨u, hu⟩ := Option.isSome_iff_exists.1 (hs 0 (by omega))
      exact .inr ⟨g, rfl, hB, lt_of_cell hu⟩
/-- An entry's data lies apart from the block of a slice. -/
def Far (e : Ec) (v : Value) : Prop := e.c = 0 ∨ ∀ k, (Value.slice e.p e.n e.c).ownBlock = some k → v.ownBlock ≠ some k
def DatO (B : Nat) (w : World) (v : Value) (E : List Ec) (L : List En) : Prop :=
  E.length = L.length ∧ ∀ (k : Nat) e x, E[k]? = some e → L[k]? = some x → e.i = x.i ∧ e.t = x.t ∧ Own B w (.slice e.p e.n e.c) x.d ∧ Far e v ∧ x.fits
theorem DatO.dat {B : Nat} {w : World} {v : Value} {E : List Ec} {L : List En} (h : DatO B w v E L) : Dat w E L := ⟨h.1, fun k e x h1 h2 => by
  obtain ⟨a, b, c, _, d⟩ := h.2 k e x h1 h2
  exact ⟨a, b, c.by_, d⟩⟩
theorem DatO.below {B : Nat} {w w' : World} {v : Value} {E : List Ec} {L : List En} (h : DatO B w v E L) (hb : Below w.heap.size w w') : DatO B w' v E L := ⟨h.1, fun k e x h1 h2 => by
  obtain ⟨a, b, c, f, d⟩ := h.2 k e x h1 h2
  exact ⟨a, b, c.below hb, f, d⟩⟩
theorem DatO.mono {B B' : Nat} {w : World} {v : Value} {E : List Ec} {L : List En} (h : DatO B w v E L) (hB : B' ≤ B) : DatO B' w v E L := ⟨h.1, fun k e x h1 h2 => by
  obtain ⟨a, b, c, f, d⟩ := h.2 k e x h1 h2
  exact ⟨a, b, c.mono hB, f, d⟩⟩
/-- One more entry, behind a growth of the slice. -/
theorem DatO.push {B : Nat} {w w' : World} {v v' : Value} {E : List Ec} {L : List En} (h : DatO B w v E L) {e : Ec} {x : En} (hi : e.i = x.i) (ht : e.t = x.t) (hd : Own B w (.slice e.p e.n e.c) x.d) (hfar : Far e v) (hf : x.fits)
    (hg : w.grownBy w' v.ownBlock) (he : v'.ownBlock = v.ownBlock ∨ v'.ownBlock = some (w.heap.size + 1)) : DatO B w' v' (E ++ [e]) (L ++ [x]) := by
  have step : ∀ (e : Ec) (d : List UInt8), Own B w (.slice e.p e.n e.c) d → Far e v → Own B w' (.slice e.p e.n e.c) d ∧ Far e v' := fun e d ho hfa => by
    refine ⟨ho.grown hg (hfa.imp id fun h k hk => h k hk), ?_⟩
    rcases hfa with h0 | hfa
    · exact .inl h0
    · rcases he with he | he
      · exact .inr fun k hk => by rw [he]; exact hfa k hk
      · rcases ho.far with h0 | ⟨g, hp, _, hlt⟩
        · exact .inl h0
        · refine .inr fun k hk => ?_
          rw [he]
          rw [hp] at hk
          injection hk with hk
          intro e2
          injection e2 with e2
          subst hk
          have : (⟨g, 0, none⟩ : Addr).block = g := rfl
          omega
  refine ⟨by rw [List.length_append, List.length_append, h.1]; rfl, fun k e' x' h1 h2 => ?_⟩
  by_cases hk : k < E.length
  · rw [List.getElem?_append_left hk] at h1
    rw [List.getElem?_append_left (by rw [← h.1]; exact hk)] at h2
    obtain ⟨a, b, c, f, d⟩ := h.2 k e' x' h1 h2
    obtain ⟨s1, s2⟩ := step e' x'.d c f
    exact ⟨a, b, s1, s2, d⟩
  · rw [List.getElem?_append_right (by omega)] at h1
    rw [List.getElem?_append_right (by rw [← h.1]; omega)] at h2
    have h0 : k - E.length = 0 := by
      have := (List.getElem?_eq_some_iff.1 h1).1
      simp at this
      omega
    rw [h0] at h1
    rw [← h.1, h0] at h2
    simp at h1 h2
    subst h1 h2
    obtain ⟨s1, s2⟩ := step e x.d hd hfar
    exact ⟨hi, ht, s1, s2, hf⟩
/-- The slice v reads as the entries L, and all of it is the call's own from B on. -/
def OwnEns (B : Nat) (w : World) (v : Value) (L : List En) : Prop := ∃ E, OwnE B w v E ∧ DatO B w v E L
theorem OwnEns.ens {B : Nat} {w : World} {v : Value} {L : List En} (h : OwnEns B w v L) : Ens w v L := h.elim fun E h => ⟨E, h.1.ecs, h.2.dat⟩
theorem OwnEns.below {B : Nat} {w w' : World} {v : Value} {L : List En} (h : OwnEns B w v L) (hb : Below w.heap.size w w') : OwnEns B w' v L := h.elim fun E h => ⟨E, h.1.below hb, h.2.below hb⟩
theorem OwnEns.mono {B B' : Nat} {w : World} {v : Value} {L : List En} (h : OwnEns B w v L) (hB : B' ≤ B) : OwnEns B' w v L := h.elim fun E h => ⟨E, h.1.mono hB, h.2.mono hB⟩
theorem wpList_pushE2 {w : World} {ops : Array Oper} {rest : List Oper} {o : Oper} {a : Act} {Q : Exit → Act → World → Prop} (hgd : o.guard = none) (s t : Operand)
    (ho : o.op = .call { callee := .builtin .append, args := #[s, t], argTypes := #[22, 22] }) (hty : o.type = 22) {B : Nat} {v : Value} {l : List Ec} (x : Ec) {H : Nat}
    (hs : a.eval s = v) (ht : a.eval t = .slice (some ⟨H, 0, none⟩) 1 1) (hH : H = w.heap.size) (h : OwnE B w v l) (hB : B ≤ w.heap.size) (hn : l.length ≤ 1000000)
    (hK : ∀ v' w', OwnE B w' v' (l ++ [x]) → Below B w w' → w.grownBy w' v.ownBlock → (v'.ownBlock = v.ownBlock ∨ v'.ownBlock = some (w.heap.size + 1)) → wpList Try.prog ops Q rest (a.put o.dst v') w') : wpList Try.prog ops Q (o :: rest) a (w.alloc (.cells #[.int .i64 x.i, .int .i64 x.t, .slice x.p x.n x.c] 70)) := by
  subst hH
  obtain ⟨v', w', hr, h1, h2, h3, h4⟩ := run_pushE h x hB hn
  exact Lib.wpList_append_run_sl _ hgd s t 22 ho v _ hs ht (by rw [hty]; exact hr) (hK v' w' h1 h2 h3 h4)
/-- What own says. -/
def OwnPost (w : World) (L : List En) (e : Ending) (w' : World) : Prop := ∃ v, e = .returned v ∧ OwnEns w.heap.size w' v L ∧ Below w.heap.size w w'

set_option maxRecDepth 200000 in
set_option maxHeartbeats 4000000 in
theorem own_any {w : World} {v : Value} {L : List En} (hv : Ens w v L) (h6 : L.length ≤ 100000) (hd : ∀ x ∈ L, x.d.length ≤ 4096) : Calls Try.prog 106 #[v] w (OwnPost w L) := by
  obtain ⟨p, n, c, rfl⟩ := hv.sl
  have hlen := hv.len
  have hn := hlen.1
  subst hn
  have HV := hide hv
  have HD := hide hd
  clear hv hlen hd
  go_enter Try.func106, Try.ntmps106
  go_wp2_with fail
  go_loopw [3, 5, 8] (fun u _ i wr => ∃ k : Nat, k ≤ L.length ∧ i = .int .i64 k ∧ (∃ p n c, u = .slice p n c) ∧ Hid (OwnEns w.heap.size wr u (L.take k) ∧ Below w.heap.size w wr)) (fun _ _ i _ => L.length - (intOf i).toNat)
  case atStart => exact ⟨0, by omega, rfl, ⟨_, _, _, rfl⟩, hide ⟨⟨[], OwnE.nil _ _, rfl, by simp⟩, Below.refl _ _⟩⟩
  case round =>
    obtain ⟨k, hk, rfl, ⟨pu, nu, cu, rfl⟩, HR⟩ := hrel
    by_cases hlt : k < L.length
    · have he := List.getElem?_eq_getElem hlt
      obtain ⟨e, hee⟩ : ∃ e, L[k] = e := ⟨_, rfl⟩
      rw [hee] at he
      have HT : Hid (L.take (k + 1) = L.take k ++ [e]) := hide (by rw [List.take_add_one, he]; rfl)
      obtain ⟨g, o, pd, nd, cd, rfl, hat0, hby0, hnd⟩ := HV.out.at_ he
      have hat := hat0.below (HR.out.2.mono (Nat.le_refl _))
      obtain ⟨oo, hoo⟩ : ∃ oo, o + k * 3 = oo := ⟨_, rfl⟩
      rw [hoo] at hat
      have c0 := hat.c0
      have c1 := hat.c1
      have c2 := hat.c2
      dsimp only at c0 c1 c2
      have HBY := hide (hby0.below HR.out.2)
      have HDL : Hid (e.d.length ≤ 4096) := hide (HD.out e (List.mem_of_getElem? he))
      have HEF : Hid (e.fits) := hide (HV.out.fits e (List.mem_of_getElem? he))
      obtain ⟨ei, hei⟩ : ∃ ei, e.i = ei := ⟨_, rfl⟩
      obtain ⟨et, het⟩ : ∃ et, e.t = et := ⟨_, rfl⟩
      rw [hei] at c0
      rw [het] at c1
      have HE := hide (And.intro hei het)
      have bN : Below wr.heap.size wr (wr.alloc (.cells #[.int .i64 ei, .int .i64 et, .slice pd nd cd] 70)) := (Below.refl _ _).alloc (Nat.le_refl _) _
      have hN0 : EcAt (wr.alloc (.cells #[.int .i64 ei, .int .i64 et, .slice pd nd cd] 70)) wr.heap.size 0 ⟨ei, et, pd, nd, cd⟩ := fun j u hj => by
        rw [Nat.zero_add, cell_of_row _ wr.heap.size _ _ _ (0, 0) (heap_alloc_new wr _)]
        simpa [ecC] using hj
      have hF0 : (wr.alloc (.cells #[.int .i64 ei, .int .i64 et, .slice pd nd cd] 70)).frozen? ⟨wr.heap.size, 2, none⟩ = false := by
        rw [frozen?_alloc_cells]
        simp [World.frozen?]
      have hzs : wr.heap.size < (wr.alloc (.cells #[.int .i64 ei, .int .i64 et, .slice pd nd cd] 70)).heap.size := by simp
      obtain ⟨Z, hZ⟩ : ∃ Z, wr.alloc (.cells #[.int .i64 ei, .int .i64 et, .slice pd nd cd] 70) = Z := ⟨_, rfl⟩
      obtain ⟨bz, hbz⟩ : ∃ bz, wr.heap.size = bz := ⟨_, rfl⟩
      rw [hZ, hbz] at hN0 hzs hF0
      rw [hZ] at bN
      have HZS := hide hzs
      have HBN := hide bN
      have HNZ := hide hN0
      have HF0 := hide hF0
      have HBYZ := hide (HBY.out.below bN)
      obtain ⟨z0, z1, z2⟩ := And.intro hN0.c0 (And.intro hN0.c1 hN0.c2)
      rw [Nat.zero_add] at z1 z2
      dsimp only at z0 z1 z2
      have HWS : Hid (w.heap.size ≤ Z.heap.size) := hide (by have := HR.out.2.size; omega)
      clear he hee hat0 hat hby0 hnd hei het bN hzs hN0 hF0
      have HZB := hide (show ∀ V, Z.grownBy V none → Below Z.heap.size Z V from fun V h => ⟨h.os, h.tape, h.output, h.size, fun k hk => h.block k hk (by simp)⟩)
      obtain ⟨E, hE, hDE⟩ := HR.out.1
      have HELN : Hid (E.length ≤ 1000000) := hide (by rw [hDE.1, List.length_take]; omega)
      have HALL : Hid (∀ (w4 : World) (p4 : Option Addr) (n4 c4 : Nat), Own w.heap.size w4 (.slice p4 n4 c4) e.d → Below Z.heap.size Z w4 → (∀ k, (Value.slice p4 n4 c4).ownBlock = some k → (Value.slice none 0 0).ownBlock = some k ∨ Z.heap.size ≤ k) →
          OwnE w.heap.size (w4.setCell ⟨bz, 2, none⟩ (.slice p4 n4 c4)) (.slice pu nu cu) E ∧ DatO w.heap.size (w4.setCell ⟨bz, 2, none⟩ (.slice p4 n4 c4)) (.slice pu nu cu) E (L.take k) ∧
          Own w.heap.size (w4.setCell ⟨bz, 2, none⟩ (.slice p4 n4 c4)) (.slice p4 n4 c4) e.d ∧ Far ⟨ei, et, p4, n4, c4⟩ (.slice pu nu cu) ∧ Below w.heap.size w (w4.setCell ⟨bz, 2, none⟩ (.slice p4 n4 c4)) ∧ w.heap.size ≤ (w4.setCell ⟨bz, 2, none⟩ (.slice p4 n4 c4)).heap.size) := hide (by
        intro w4 p4 n4 c4 ho hb hk4
        have hbw : Below wr.heap.size wr (w4.setCell ⟨bz, 2, none⟩ (.slice p4 n4 c4)) := (HBN.out.trans (hb.mono (by have := HZS.out; omega))).grown (grown_set _ _ _ _) (by have := HBN.out.size; have := hb.size; omega) fun k hk => by cases hk; omega
        have hbb : Below w.heap.size w (w4.setCell ⟨bz, 2, none⟩ (.slice p4 n4 c4)) := HR.out.2.trans (hbw.mono HR.out.2.size)
        have hkk : ∀ k, (Value.slice p4 n4 c4).ownBlock = some k → Z.heap.size ≤ k := fun k h => by
          rcases hk4 k h with h | h
          · cases h
          · exact h
        refine ⟨hE.below hbw, hDE.below hbw, ho.grown (grown_set _ _ _ _) (.inr fun k hk e2 => ?_), .inr fun k hk e2 => ?_, hbb, hbb.size⟩
        · injection e2 with e2
          have := hkk k hk
          have := HZS.out
          omega
        · have h1 := (hE.lt k e2).2
          have h2 := hkk k hk
          have := HZS.out
          omega)
      have HEQ := hide hbz
      clear hE hDE
      go_wp2_with (at_builtin; first
        | (refine wpList_append_by (B := w.heap.size) (w := Z) (v := .slice none 0 0) (y := .slice pd nd cd) (l := []) (m := e.d) rfl (.const (.slice none 0 0)) (.tmp 13) rfl rfl rfl rfl (Own.nil _ _) HBYZ.out (by have := HDL.out; simp; omega) HWS.out ?_; intro v4 w4 ho4 hg4 hb4 hk4; rw [List.nil_append] at ho4; obtain ⟨p4, c4, rfl⟩ := ho4.by_.shape; have HO4 := hide ho4; have HB4 := hide (HZB.out w4 hg4); have HK4 := hide hk4; have HN4 := hide (HNZ.out.below HB4.out); have HF4 := hide ((HB4.out.frozen (p := ⟨bz, 2, none⟩) HZS.out).trans HF0.out); obtain ⟨y0, y1, y2⟩ := And.intro HN4.out.c0 (And.intro HN4.out.c1 HN4.out.c2); rw [Nat.zero_add] at y1 y2; dsimp only at y0 y1 y2; have y3 := HF4.out; clear ho4 hg4 hb4 hk4 z0 z1 z2 c0 c1 c2 hoo)
        | (go_loud (refine wpList_pushE2 (w := w4.setCell ⟨bz, 2, none⟩ (.slice p4 e.d.length c4)) (v := .slice pu nu cu) (l := E) (B := w.heap.size) (H := w4.heap.size) rfl (.tmp 16) (.tmp 18) rfl rfl ⟨ei, et, p4, e.d.length, c4⟩ rfl rfl (by simp) (HALL.out w4 p4 _ c4 HO4.out HB4.out HK4.out).1 (HALL.out w4 p4 _ c4 HO4.out HB4.out HK4.out).2.2.2.2.2 HELN.out ?_); intro v6 w6 ho6 hb6 hg6 he6; obtain ⟨p6, n6, c6, rfl⟩ := ho6.ecs.sl; have HA := hide (HALL.out w4 p4 _ c4 HO4.out HB4.out HK4.out); have HO6 := hide ho6; have HB6 := hide (HA.out.2.2.2.2.1.trans hb6); have HD6 := hide (HA.out.2.1.push (e := ⟨ei, et, p4, e.d.length, c4⟩) (x := e) HE.out.1.symm HE.out.2.symm HA.out.2.2.1 HA.out.2.2.2.1 HEF.out hg6 he6); clear ho6 hb6 hg6 he6))
      go_wp2
      go_roundw
      case rel => exact ⟨k + 1, by omega, by go_num, ⟨_, _, _, rfl⟩, hide ⟨⟨_, HO6.out, by rw [HT.out]; exact HD6.out⟩, HB6.out⟩⟩
      case measure => simp [intOf]; omega
    · have HT : Hid (L.take k = L) := hide (List.take_of_length_le (by omega))
      go_wp2
      go_ret
      have h := HR.out
      rw [HT.out] at h
      exact ⟨_, rfl, h.1, h.2⟩
end Go.Proofs.Ytlmoiaeppehiiaa
