/- unfold: a branch, and behind it what stands beneath it. -/
import Derived.Test.YtimjplkehlgelaaGreatFBr
namespace Go.Proofs.YtimjplkehlgelaaGreat
set_option linter.unusedVariables false
set_option linter.unusedSimpArgs false
open Go.RowKit

/-- From w to w' only v's own row has changed, and v' lies in that, or in a block made since. -/
def Ext2 (w : World) (v : Value) (w' : World) (v' : Value) : Prop := w.grownBy w' v.ownBlock ∧ (v'.ownBlock = v.ownBlock ∨ ∃ i, w.heap.size ≤ i ∧ v'.ownBlock = some i)
theorem Ext2.refl (w : World) (v : Value) : Ext2 w v w v := ⟨World.grownBy.refl _ _, .inl rfl⟩
theorem Ext2.trans {w w1 w2 : World} {v v1 v2 : Value} (h : Ext2 w v w1 v1) (h' : Ext2 w1 v1 w2 v2) : Ext2 w v w2 v2 := by
  obtain ⟨g, o⟩ := h
  obtain ⟨g', o'⟩ := h'
  refine ⟨⟨g'.os.trans g.os, g'.tape.trans g.tape, g'.output.trans g.output, Nat.le_trans g.size g'.size, fun k hk hne => ?_⟩, ?_⟩
  · refine (g'.block k (Nat.lt_of_lt_of_le hk g.size) fun e => ?_).trans (g.block k hk hne)
    rcases o with o | ⟨i, hi, o⟩
    · exact hne (e.trans o)
    · rw [o] at e
      injection e with e
      omega
  · rcases o' with o' | ⟨i, hi, o'⟩
    · rcases o with o | ⟨j, hj, o⟩
      · exact .inl (o'.trans o)
      · exact .inr ⟨j, hj, o'.trans o⟩
    · exact .inr ⟨i, Nat.le_trans g.size hi, o'⟩
theorem Ext2.alloc (w : World) (v : Value) (o : Obj) : Ext2 w v (w.alloc o) v := ⟨World.grownBy_alloc w o _, .inl rfl⟩
theorem Ext2.drewN {w w' : World} {v v' : Value} (h : Ext2 w v w' v') (q : Nat) : Ext2 w v (w'.drewN q) v' := ⟨⟨h.1.os, h.1.tape, h.1.output, h.1.size, h.1.block⟩, h.2⟩
theorem UndIs.ext {w w' : World} {B b : Nat} {U : Int → List Sp} {V : Int → Value} {D : DataW Value} {v v' : Value} (h : UndIs w B b U V D) (he : Ext2 w v w' v') (ho : ∀ i, v.ownBlock = some i → UndOff b V D i) : UndIs w' B b U V D ∧ ∀ i, v'.ownBlock = some i → UndOff b V D i :=
  ⟨h.grown he.1 fun i hi => ho i hi, fun i hi => by
    rcases he.2 with e | ⟨j, hj, e⟩
    · exact ho i (by rw [← e]; exact hi)
    · rw [e] at hi
      injection hi with hi
      subst hi
      exact h.off_new hj⟩
theorem UndIs.val {w : World} {B b : Nat} {U : Int → List Sp} {V : Int → Value} {D : DataW Value} (h : UndIs w B b U V D) {k : Int} {v : Value} (hv : Maps.has D (.int .i64 k) = true ∧ v = V k ∨ Maps.has D (.int .i64 k) = false ∧ v = .slice none 0 0) : OwnS B w v (U k) := by
  rcases hv with ⟨hh, rfl⟩ | ⟨hh, rfl⟩
  · exact (h.vals k hh).2
  · rw [h.none_ k hh]
    exact OwnS.nil _ _
theorem cell_ext {w w' : World} {v v' : Value} (h : Ext2 w v w' v') {g i : Nat} {u : Value} (hc : w.cell? ⟨g, i, none⟩ = some u) (hne : v.ownBlock ≠ some g) : w'.cell? ⟨g, i, none⟩ = some u :=
  (World.cell?_of_block (a := ⟨g, i, none⟩) (h.1.block g (lt_of_cell hc) fun e => hne e.symm)).trans hc

theorem wpList_pushB {w : World} {ops : Array Oper} {rest : List Oper} {o : Oper} {a : Act} {Q : Exit → Act → World → Prop} (hgd : o.guard = none) (s t : Operand)
    (ho : o.op = .call { callee := .builtin .append, args := #[s, t], argTypes := #[59, 59] }) (hty : o.type = 59) {B : Nat} {v : Value} {l : List Br} (x : Br)
    {H : Nat} (hs : a.eval s = v) (ht : a.eval t = .slice (some ⟨H, 0, none⟩) 1 1) (hH : H = w.heap.size) (h : OwnB B w v l) (hB : B ≤ w.heap.size) (hn : l.length ≤ 1000000)
    (hK : ∀ v' w', OwnB B w' v' (l ++ [x]) → Ext2 w v w' v' → wpList Tryz.prog ops Q rest (a.put o.dst v') w') : wpList Tryz.prog ops Q (o :: rest) a (w.alloc (.cells #[.int .i64 x.d, .bool x.o, .int .i64 x.s.t, .int .i64 x.s.i, .int .i64 x.s.p, .int .i64 x.s.s, .int .i64 x.s.e, .string x.s.n] 67)) := by
  subst hH
  obtain ⟨v', w', hr, h1, h2, h3, h4⟩ := run_pushB h x hB hn
  refine Lib.wpList_append_run_sl _ hgd s t 59 ho v _ hs ht (by rw [hty]; exact hr) (hK v' w' h1 ⟨h3, ?_⟩)
  rcases h4 with h4 | h4
  · exact .inl h4
  · exact .inr ⟨_, by omega, h4⟩

/-- What unfold leaves. -/
def UnfPost (B : Nat) (w : World) (v : Value) (l : List Br) (e : Ending) (w' : World) : Prop := ∃ p n c, e = .returned (.slice p n c) ∧ OwnB B w' (.slice p n c) l ∧ Ext2 w v w' (.slice p n c)

theorem brAt_new (w : World) (x : Br) : BrAt (w.alloc (.cells #[.int .i64 x.d, .bool x.o, .int .i64 x.s.t, .int .i64 x.s.i, .int .i64 x.s.p, .int .i64 x.s.s, .int .i64 x.s.e, .string x.s.n] 67)) w.heap.size 0 x := fun k u hk => by
  rw [Nat.zero_add, cell_of_row _ w.heap.size k _ 67 (0, 0) (heap_alloc_new w _)]
  simpa [brC] using hk

set_option maxRecDepth 200000 in
set_option maxHeartbeats 1000000 in
theorem unfold_step {B B0 b : Nat} {N : Int} {U : Int → List Sp} {V : Int → Value} {D : DataW Value} {S : List Sp} (n : Nat) (w : World) (p : Option Addr) (m c : Nat) (l : List Br) (x : Br) (hkid : U x.s.i = kids S x.s.i) (hwfx : (Lit.int .i64 x.s.i).wf = true)
    (ih : ∀ (w : World) (p : Option Addr) (m c : Nat) (l : List Br) (z : Br), z.s ∈ kids S x.s.i → UndIs w B0 b U V D → (∀ i, (Value.slice p m c).ownBlock = some i → UndOff b V D i) → B ≤ w.heap.size → OwnB B w (.slice p m c) l → 0 ≤ z.d → z.d + n ≤ N → l.length + (unf S n z.d z.o z.s).length ≤ 1000000 →
      Calls Tryz.prog 105 #[.slice p m c, .agg #[.int .i64 z.d, .bool z.o, .int .i64 z.s.t, .int .i64 z.s.i, .int .i64 z.s.p, .int .i64 z.s.s, .int .i64 z.s.e, .string z.s.n], .map (some b)] w (UnfPost B w (.slice p m c) (l ++ unf S n z.d z.o z.s)))
    (hU : UndIs w B0 b U V D) (hoff : ∀ i, (Value.slice p m c).ownBlock = some i → UndOff b V D i) (hB : B ≤ w.heap.size) (ho : OwnB B w (.slice p m c) l) (hd0 : 0 ≤ x.d) (hdn : x.d + (n + 1 : Nat) ≤ N) (hN : N ≤ 1000) (hlen : l.length + (unf S (n + 1) x.d x.o x.s).length ≤ 1000000) :
    Calls Tryz.prog 105 #[.slice p m c, .agg #[.int .i64 x.d, .bool x.o, .int .i64 x.s.t, .int .i64 x.s.i, .int .i64 x.s.p, .int .i64 x.s.s, .int .i64 x.s.e, .string x.s.n], .map (some b)] w (UnfPost B w (.slice p m c) (l ++ unf S (n + 1) x.d x.o x.s)) := by
    have IH := hide ih
    clear ih
    have hX : OwnB B (w.alloc (.cells #[.int .i64 x.d, .bool x.o, .int .i64 x.s.t, .int .i64 x.s.i, .int .i64 x.s.p, .int .i64 x.s.s, .int .i64 x.s.e, .string x.s.n] 67)) (.slice p m c) l := World.ownsRow.alloc ho _
    have hnew := brAt_new w x
    have hrec : unf S (n + 1) x.d x.o x.s = [⟨x.d, x.o, x.s⟩] ++ (kids S x.s.i).flatMap (unf S n (x.d + 1) false) := rfl
    have hvw : ∀ i, (Value.slice p m c).ownBlock = some i → i < w.heap.size := fun i hi => (ho.lt i hi).2
    have hUX := (hU.ext (Ext2.alloc w (.slice p m c) (.cells #[.int .i64 x.d, .bool x.o, .int .i64 x.s.t, .int .i64 x.s.i, .int .i64 x.s.p, .int .i64 x.s.s, .int .i64 x.s.e, .string x.s.n] 67)) hoff)
    have hll : l.length ≤ 1000000 := by omega
    have hKl : ∀ k, l.length + 1 + (((kids S x.s.i).take k).flatMap (unf S n (x.d + 1) false)).length ≤ 1000000 := fun k => by
      rw [hrec, List.length_append, List.length_singleton] at hlen
      have h1 : (kids S x.s.i).flatMap (unf S n (x.d + 1) false) = ((kids S x.s.i).take k).flatMap (unf S n (x.d + 1) false) ++ ((kids S x.s.i).drop k).flatMap (unf S n (x.d + 1) false) := by
        rw [← List.flatMap_append, List.take_append_drop]
      rw [h1, List.length_append] at hlen
      omega
    obtain ⟨K, hKdef⟩ : ∃ K, kids S x.s.i = K := ⟨_, rfl⟩
    rw [hKdef] at hkid hKl hrec IH
    rw [hrec]
    have HX := hide hX
    have HNEW := hide hnew
    have HVW := hide hvw
    have HUX := hide hUX
    have HKL := hide hKl
    have HKID := hide hkid
    have HOFF := hide hoff
    clear hX hnew hvw hUX hKl hkid hoff hrec hU hlen hKdef ho
    obtain ⟨d, o, t, i, q, s, en, nm⟩ := x
    dsimp only at *
    go_enter Tryz.func105, Tryz.ntmps105
    go_wp2_with (at_builtin; go_must (refine wpList_pushB (v := .slice p m c) rfl _ _ rfl rfl ⟨d, o, t, i, q, s, en, nm⟩ rfl rfl (by simp) HX.out (by simp; omega) hll ?_); intro v2 w2 ho2 he2; obtain ⟨p2, m2, c2, rfl⟩ := ho2.brs.sl; have hne : (Value.slice p m c).ownBlock ≠ some w.heap.size := (fun e => by have := HVW.out _ e; omega); have hat := HNEW.out; have k0 := cell_ext he2 hat.c0 hne; have k3 := cell_ext he2 hat.c3 hne; dsimp only [Nat.zero_add] at k0 k3; have hu2 := HUX.out.1.ext he2 HUX.out.2; obtain ⟨vv, hlk, hov, hvv⟩ := hu2.1.look hwfx; rw [HKID.out] at hov; obtain ⟨pv, nv, cv, rfl⟩ := hov.sps.sl; have hlk0 : (Instr.lookup 140 (.map (some b)) (.int .i64 i) false).run Tryz.prog w2 = .ok (.slice pv nv cv) w2 := hlk 0; have hlv := hov.sps.len.1; have HO2 := hide (And.intro ho2 (And.intro he2 hvv)); clear hat hlk ho2 he2 hu2 hvv hov)
    have HLV := hide hlv
    clear hlv hlk0
    go_loopw [0, 8, 19] (fun v _ ix wr => ∃ (k : Nat) (p' : Option Addr) (m' c' : Nat), v = .slice p' m' c' ∧ k ≤ K.length ∧ ix = .int .i64 k ∧ Hid (OwnB B wr (.slice p' m' c') (l ++ ([⟨d, o, ⟨t, i, q, s, en, nm⟩⟩] ++ (K.take k).flatMap (unf S n (d + 1) false))) ∧ Ext2 (w.alloc (.cells #[.int .i64 d, .bool o, .int .i64 t, .int .i64 i, .int .i64 q, .int .i64 s, .int .i64 en, .string nm] 67)) (.slice p m c) wr (.slice p' m' c'))) (fun _ _ i _ => K.length - (intOf i).toNat)
    case atStart => exact ⟨0, p2, m2, c2, rfl, Nat.zero_le _, rfl, hide ⟨HO2.out.1, HO2.out.2.1⟩⟩
    case round =>
      obtain ⟨k, p', m', c', rfl, hk, rfl, HR⟩ := hrel
      by_cases hlt : k < K.length
      · have hlt2 : (k : Int) < (nv : Int) := by have := HLV.out; omega
        have hu := HUX.out.1.ext HR.out.2 HUX.out.2
        have hov := hu.1.val HO2.out.2.2
        rw [HKID.out] at hov
        obtain ⟨g, oo0, rfl, hx⟩ := hov.sps.at_ (by omega)
        obtain ⟨y, hy⟩ : ∃ y, K[k]? = some y := ⟨_, List.getElem?_eq_getElem (by have := HLV.out; omega)⟩
        have hat := hx k y hy
        obtain ⟨oo, hoo⟩ : ∃ oo, oo0 + k * 6 = oo := ⟨_, rfl⟩
        rw [hoo] at hat
        have z0 := hat.c0
        have z1 := hat.c1
        have z2 := hat.c2
        have z3 := hat.c3
        have z4 := hat.c4
        have z5 := hat.c5
        have htop := cell_ext HR.out.2 HNEW.out.c0 hne
        dsimp only [Nat.zero_add] at htop
        have htw : w.heap.size < wr.heap.size := lt_of_cell htop
        have htn : w.heap.size ≠ wr.heap.size := by omega
        have hyK := List.mem_of_getElem? hy
        have hnl : nv ≤ 9223372036854775807 := by have := (hov.sps.len).2; unfold maxLen at this; omega
        have hlen' := HKL.out (k + 1)
        have htk : K.take (k + 1) = K.take k ++ [y] := by rw [List.take_add_one, hy]; rfl
        rw [htk, List.flatMap_append, List.length_append] at hlen'
        have hfl : [y].flatMap (unf S n (d + 1) false) = unf S n (d + 1) false y := by simp
        rw [hfl] at hlen'
        have HLEN := hide hlen'
        have HTK := hide (And.intro htk hfl)
        have HU := hide hu
        have HY := hide hyK
        have HY2 := hide hy
        clear hu hov hx hat hyK hlen' htk hfl hy
        obtain ⟨yt, yi, yp, ys, ye, yn⟩ := y
        dsimp only at *
        have hcall := IH.out (wr.alloc (.cells #[.int .i64 yt, .int .i64 yi, .int .i64 yp, .int .i64 ys, .int .i64 ye, .string yn] 38)) p' m' c' (l ++ ([(⟨d, o, ⟨t, i, q, s, en, nm⟩⟩ : Br)] ++ (K.take k).flatMap (unf S n (d + 1) false))) ⟨d + 1, false, ⟨yt, yi, yp, ys, ye, yn⟩⟩ HY.out
          (HU.out.1.ext (Ext2.alloc wr (.slice p' m' c') _) HU.out.2).1 HU.out.2 (by simp; omega) (show OwnB B (wr.alloc _) (.slice p' m' c') _ from World.ownsRow.alloc HR.out.1 _) (by simp only; omega) (by simp only; omega) (by
            have := HLEN.out
            simp only [List.length_append, List.length_singleton] at this ⊢
            omega)
        have HC := hide hcall
        clear hcall
        dsimp only at HC
        have hd1 : d + 1 ≤ 1000 := by omega
        go_wp2_with fail
        refine HC.out.mono ?_
        rintro e3 w3 ⟨p3, m3, c3, rfl, ho3, he3⟩
        have HO3 := hide (And.intro ho3 ((HR.out.2.trans (Ext2.alloc wr (.slice p' m' c') _)).trans he3))
        clear ho3 he3
        go_wp2
        go_roundw
        case rel =>
          refine ⟨k + 1, p3, m3, c3, rfl, by have := HLV.out; omega, by go_num, hide ⟨?_, HO3.out.2⟩⟩
          rw [HTK.out.1, List.flatMap_append, HTK.out.2]
          have := HO3.out.1
          simpa only [List.append_assoc] using this
        case measure => simp [intOf]; have := HLV.out; omega
      · have hkK : k = K.length := by omega
        subst hkK
        have hfin := HR.out.1
        rw [List.take_length] at hfin
        have HF := hide hfin
        clear hfin
        go_wp2
        go_ret
        exact ⟨p', m', c', rfl, HF.out, (Ext2.alloc w (.slice p m c) _).trans HR.out.2⟩
theorem unfold_any {B B0 b : Nat} {U : Int → List Sp} {V : Int → Value} {D : DataW Value} {S : List Sp} (hUS : ∀ t ∈ S, U t.i = kids S t.i) (hwf : ∀ t ∈ S, (Lit.int .i64 t.i).wf = true) :
    ∀ (n : Nat) (w : World) (p : Option Addr) (m c : Nat) (l : List Br) (x : Br), x.s ∈ S → Deep S n x.s → UndIs w B0 b U V D → (∀ i, (Value.slice p m c).ownBlock = some i → UndOff b V D i) → B ≤ w.heap.size → OwnB B w (.slice p m c) l → 0 ≤ x.d → x.d + n + 1 ≤ 1000 → l.length + (unf S n x.d x.o x.s).length ≤ 1000000 →
    Calls Tryz.prog 105 #[.slice p m c, .agg #[.int .i64 x.d, .bool x.o, .int .i64 x.s.t, .int .i64 x.s.i, .int .i64 x.s.p, .int .i64 x.s.s, .int .i64 x.s.e, .string x.s.n], .map (some b)] w (UnfPost B w (.slice p m c) (l ++ unf S n x.d x.o x.s))
  | 0, w, p, m, c, l, x, hx, hd, hU, hoff, hB, ho, hd0, hdn, hlen => by
    rw [unf_more (d := x.d) (o := x.o) hd (Nat.le_succ 0)] at hlen ⊢
    exact unfold_step 0 w p m c l x (hUS _ hx) (hwf _ hx) (fun w p m c l z hz => by rw [show kids S x.s.i = [] from hd] at hz; simp at hz) hU hoff hB ho hd0 (N := 1000) (by simp at hdn ⊢; omega) (Int.le_refl _) hlen
  | n + 1, w, p, m, c, l, x, hx, hd, hU, hoff, hB, ho, hd0, hdn, hlen =>
    unfold_step n w p m c l x (hUS _ hx) (hwf _ hx) (fun w p m c l z hz hU hoff hB ho hd0' hdn' hlen => by
      obtain ⟨h1, h2⟩ := mem_kids.1 hz
      exact unfold_any hUS hwf n w p m c l z h1 (hd z.s hz) hU hoff hB ho hd0' (by omega) hlen) hU hoff hB ho hd0 (N := 999) (by omega) (by decide) hlen
end Go.Proofs.YtimjplkehlgelaaGreat
