import Derived.Test.YtgbdjcekpdfpjaaGreatDoorVa
import Derived.Test.YtgbdjcekpdfpjaaGreatDoorVb
import Derived.RegionIn
import Derived.Stop.RegionWithIn
set_option linter.unusedVariables false
set_option linter.unusedSimpArgs false
namespace Go.Proofs.YtgbdjcekpdfpjaaGreatDoor
open Go.RowKit
attribute [local go_sem] Oper.semAt_some
theorem recordV_any {w : World} {v : Value} {l : List UInt8} (hv : By w v l) (hl : l.length ≤ 65536) :
  Calls Tryz.prog 121 #[v] w fun e w' => ∃ v', e = .returned v' ∧ Own w.heap.size w' v' (recL l) ∧ Below w.heap.size w w' := by
 obtain ⟨p, n, c, rfl⟩ := hv.sl
 have HV := hide hv
 clear hv
 go_enter Tryz.func121, Tryz.ntmps121
 go_wp2_with fail
 refine (wireRecord_any HV.out hl).mono ?_
 rintro e w1 ⟨v1, rfl, ho, hb⟩
 go_wp2
 go_ret
 exact ⟨_, rfl, ho, hb⟩
theorem records_any {b : Nat} {w : World} : Calls Tryz.prog 96 #[.pointer (some ⟨b, 0, none⟩)] w fun e w' => e = .returned (.func (.func 120) #[] #[.pointer (some ⟨w.heap.size, 0, none⟩)]) ∧ w' = w.alloc (.cells #[.pointer (some ⟨b, 0, none⟩)] 150) := by
 go_enter Tryz.func96, Tryz.ntmps96
 go_wp2
 go_ret
 exact ⟨rfl, rfl⟩
theorem chunk_any {p : Option Addr} {n c : Nat} {w : World} : Calls Tryz.prog 123 #[.slice p n c, .int .i64 512] w fun e w' => e = .returned (.func (.func 139) #[] #[.pointer (some ⟨w.heap.size, 0, none⟩), .pointer (some ⟨w.heap.size + 1, 0, none⟩)]) ∧ w' = (w.alloc (.cells #[.slice p n c] 40)).alloc (.cells #[.int .i64 512] 3) := by
 go_enter Tryz.func123, Tryz.ntmps123
 go_wp2
 go_ret
 exact ⟨rfl, rfl⟩
theorem head_len {w : World} {b : Nat} {vo da : Value} (s : Sn) (h : StAt w b vo da s) (hvs : s.vo.length ≤ 1000) (hds : s.da.length ≤ 1000000) : s.head.length ≤ 65536 := by
 have h1 := numB_len s.ix h.f0.2
 have h2 := numB_len s.tm h.f1.2
 have h3 := numB_len (s.vo.length : Int) (by omega)
 have h4 := numsB_len s.vo h.ns.fits
 have h5 := numB_len (s.da.length : Int) (by omega)
 unfold Sn.head
 simp only [List.length_append]
 omega
theorem piece_len {f : Nat} {l y : List UInt8} {k : Nat} (hf : l.length ≤ f) (h : (piecesL f l)[k]? = some y) : y.length ≤ 512 := by
 rw [piecesL_get f l k hf] at h
 split at h
 ·simp only [Option.some.injEq] at h
  rw [← h, List.length_take]
  omega
 ·simp at h
def rcY (s : Sn) (n : Nat) (pre : List Value) (x : Value) (M : Nat → Prop) (W : World) : Prop := ∃ y, s.recs[pre.length]? = some y ∧ Own n W x y ∧ ∀ k, x.ownBlock = some k → ¬ M k
def rcI (J : List Value → (Nat → Prop) → World → Prop) (yb l : Nat) (M3 : Nat → Prop) (n4 : Nat) (pre : List Value) (N : Nat → Prop) (W : World) : Prop :=
 ∃ vs : List Value, vs.length = pre.length + 1 ∧ J vs N W ∧ W.cell? ⟨yb, 0, none⟩ = some (.func (.yield l) #[] #[]) ∧ ¬ N yb ∧ ∀ k, N k → M3 k ∨ n4 ≤ k
def rcX (Jx : List Value → (Nat → Prop) → World → Prop) (M3 : Nat → Prop) (n4 : Nat) (c : Code) (pre : List Value) (N : Nat → Prop) (W : World) : Prop :=
 c = .ret ∧ ∃ vs : List Value, Jx vs N W ∧ ∀ k, N k → M3 k ∨ n4 ≤ k
structure Src (n : Nat) (M₀ : Nat → Prop) (W : World) (bs b : Nat) (vo da : Value) (s : Sn) : Prop where
 box : W.cell? ⟨bs, 0, none⟩ = some (.pointer (some ⟨b, 0, none⟩))
 st : StAt W b vo da s
 m1 : ¬ M₀ bs ∧ bs < n
 m2 : ¬ M₀ b ∧ b < n
 m3 : s.vo = [] ∨ ∀ k, vo.ownBlock = some k → ¬ M₀ k ∧ k < n
 m4 : s.da = [] ∨ ∀ k, da.ownBlock = some k → ¬ M₀ k ∧ k < n
theorem Src.chg {n : Nat} {M₀ : Nat → Prop} {W W' : World} {bs b : Nat} {vo da : Value} {s : Sn} (h : Src n M₀ W bs b vo da s) {S : Nat → Prop} (hc : Chg W W' S) (hS : ∀ k, S k → M₀ k ∨ n ≤ k) : Src n M₀ W' bs b vo da s := by
 have hno : ∀ k, ¬ M₀ k → k < n → ¬ S k := fun k h1 h2 h3 => by
  rcases hS k h3 with h | h
  ·exact h1 h
  ·omega
 refine ⟨hc.cell h.box (hno _ h.m1.1 h.m1.2), h.st.chg hc (hno _ h.m2.1 h.m2.2) ?_ ?_, h.m1, h.m2, h.m3, h.m4⟩
 ·exact h.m3.imp id fun h k hk => hno k (h k hk).1 (h k hk).2
 ·exact h.m4.imp id fun h k hk => hno k (h k hk).1 (h k hk).2
theorem Src.to {n n' : Nat} {M₀ M' : Nat → Prop} {W : World} {bs b : Nat} {vo da : Value} {s : Sn} (h : Src n M₀ W bs b vo da s) (hn : n ≤ n') (hM : ∀ k, M' k → M₀ k ∨ n ≤ k) : Src n' M' W bs b vo da s := by
 have hno : ∀ k, ¬ M₀ k ∧ k < n → ¬ M' k ∧ k < n' := fun k h1 => ⟨fun h2 => by
  rcases hM k h2 with h | h
  ·exact h1.1 h
  ·omega, by omega⟩
 exact ⟨h.box, h.st, hno _ h.m1, hno _ h.m2, h.m3.imp id fun h k hk => hno k (h k hk), h.m4.imp id fun h k hk => hno k (h k hk)⟩
set_option maxRecDepth 100000 in
set_option maxHeartbeats 4000000 in
theorem records_gives {bs b : Nat} {vo da : Value} {s : Sn} {M₀ : Nat → Prop} {l : Nat} {W1 : World} (h : Src W1.heap.size M₀ W1 bs b vo da s) (hvs : s.vo.length ≤ 1000) (hds : s.da.length ≤ 1000000) :
  Gives (α := Value) 3 Tryz.prog 120 #[.pointer (some ⟨bs, 0, none⟩)] (fun x => #[x]) (rcY s W1.heap.size) (fun pre => pre.length = s.recs.length) (fun x k => x.ownBlock = some k) M₀ l W1 := by
 intro J Jx M hJ hJx hY h0
 refine callsIn_of_wp_marks Tryz.func120 rfl trivial ?_
 simp only [Tryz.ntmps120, List.size_toArray, List.length_cons, List.length_nil, Nat.reduceAdd, Nat.reduceSub, Array.replicate_succ, Array.replicate_zero, List.push_toArray, List.append_toArray, List.nil_append, List.cons_append]
 obtain ⟨pd, nd, cd, rfl⟩ := h.st.by_.sl
 have hnd := h.st.by_.len.1
 have H := hide h
 have HND := hide hnd
 clear hnd
 have HJ := hide hJ
 have HJX := hide hJx
 have HY := hide hY
 have H0 := hide h0
 clear h hJ hJx hY h0
 gi_wp2
 obtain ⟨X, hX⟩ : ∃ X, W1.alloc (.cells #[.func (.yield l) #[] #[]] 168) = X := ⟨_, rfl⟩
 have hyb : X.cell? ⟨W1.heap.size, 0, none⟩ = some (.func (.yield l) #[] #[]) := by rw [← hX]; simp
 have hXs : X.heap.size = W1.heap.size + 1 := by rw [← hX]; simp
 have hXc : Chg W1 X (fun _ => False) := by rw [← hX]; exact Chg.of_alloc _ _ _
 have hsx := H.out.chg hXc (fun _ h => h.elim)
 have hbox := hsx.box
 have HHL := hide (head_len s H.out.st hvs hds)
 have HS := hide hsx
 have HJ1 := hide (HJ.out.chg _ _ _ _ H0.out (hXc.mono' fun _ h => h.elim))
 rw [hX]
 clear hX hsx
 refine wpIn_region_any' (by kernel_rfl) ?_
 generalize hY0 : X.drew = Y0
 have HY0 : Hid (Src W1.heap.size M₀ Y0 bs b vo (.slice pd nd cd) s) := hide (by rw [← hY0]; exact HS.out.chg (S := fun _ => False) ((Chg.refl _ _).drewN 1) (fun _ h => h.elim))
 have hyb0 : Y0.cell? ⟨W1.heap.size, 0, none⟩ = some (.func (.yield l) #[] #[]) := by rw [← hY0]; exact hyb
 have hbox0 := HY0.out.box
 have hYs : Y0.heap.size = W1.heap.size + 1 := by rw [← hY0]; exact hXs
 have HYL : Hid (∀ (v2 : Value) (w2 : World), Below Y0.heap.size Y0 w2 → Own Y0.heap.size w2 v2 (recL s.head) → YieldAt Fence.wide 3 Tryz.prog l #[v2] w2 fun e W' => (e = .returned (.bool true) ∧ Went J (fun k => v2.ownBlock = some k) ([] ++ [v2]) M w2 W') ∨ (e = .returned (.bool false) ∧ Went Jx (fun k => v2.ownBlock = some k) ([] ++ [v2]) M w2 W')) := hide (by
  intro v2 w2 hb2 ho2
  have hc : Chg X w2 (fun _ => False) := by rw [← hY0] at hb2; exact Chg.then ((Chg.refl X (fun _ => False)).drewN 1) (Chg.of_below hb2 (fun _ => False)) (fun _ h => .inl h)
  have hsz := hb2.size
  refine HY.out [] v2 M w2 (HJ.out.chg _ _ _ _ HJ1.out (hc.mono' fun _ h => h.elim)) ⟨recL s.head, rfl, ho2.mono (by omega), fun k hk hm => ?_⟩ (by omega)
  have h1 := (HJ.out.in_ _ _ _ H0.out k hm).2
  have h2 := (ho2.lt (by simp [recL, front]) k hk).1
  omega)
 clear hY0 hyb hbox
 refine wpAnyIn_ready (rs := [0, 1]) (by kernel_rfl) (by simp) ?_
 refine AllReadyIn.cons (o := ⟨some 4, Op.load 168 (Operand.tmp 2), 168, _, _, none⟩) rfl (fun K hK => ?_) ?_
 ·go_simp
  refine hK _ _ ?_
  clear hK K
  try simp only [Act.put, qA, qB, qC]
  refine wpAnyIn_ready (rs := [1]) (by kernel_rfl) (by simp) ?_
  refine AllReadyIn.cons (o := ⟨some 5, Op.load 150 (Operand.tmp 1), 150, _, _, none⟩) rfl (fun K hK => ?_) ?_
  ·go_simp
   refine hK _ _ ?_
   clear hK K
   try simp only [Act.put, qA, qB, qC]
   refine wpAnyIn_ready (rs := [2]) (by kernel_rfl) (by simp) ?_
   refine AllReadyIn.cons (o := ⟨some 6, Op.call { callee := Callee.value (Operand.func 122), args := #[Operand.tmp 5], argTypes := #[150] }, 40, _, _, none⟩) rfl (fun K hK => ?_) ?_
   ·go_simp
    refine ⟨trivial, ?_⟩
    refine CallsIn.mono (callsIn_wide.2 (head_any HY0.out.st (by omega))) ?_
    rintro e w1 ⟨v1, rfl, ho1, hb1⟩
    have hyb1 : w1.cell? ⟨W1.heap.size, 0, none⟩ = some (.func (.yield l) #[] #[]) := (hb1.cell (lt_of_cell hyb0)).trans hyb0
    have HO1 := hide ho1
    have HB1 := hide hb1
    clear ho1 hb1
    refine hK _ _ ?_
    clear hK K
    try simp only [Act.put, qA, qB, qC]
    refine wpAnyIn_ready (rs := [3]) (by kernel_rfl) (by simp) ?_
    refine AllReadyIn.cons (o := ⟨some 7, Op.call { callee := Callee.value (Operand.func 121), args := #[Operand.tmp 6], argTypes := #[40] }, 40, _, _, none⟩) rfl (fun K hK => ?_) ?_
    ·go_simp
     refine ⟨trivial, ?_⟩
     refine CallsIn.mono (callsIn_wide.2 (recordV_any HO1.out.by_ HHL.out)) ?_
     rintro e w2 ⟨v2, rfl, ho2, hb2⟩
     have hyb2 : w2.cell? ⟨W1.heap.size, 0, none⟩ = some (.func (.yield l) #[] #[]) := (HB1.out.trans (hb2.mono HB1.out.size)).cell (lt_of_cell hyb0) |>.trans hyb0
     have HO2 := hide ho2
     have HB2 := hide (HB1.out.trans (hb2.mono HB1.out.size))
     have HBS := hide (show w1.heap.size ≤ w2.heap.size from hb2.size)
     have HBS1 := hide HB1.out.size
     clear ho2 hb2
     refine hK _ _ ?_
     clear hK K
     try simp only [Act.put, qA, qB, qC]
     refine wpAnyIn_ready (rs := [4]) (by kernel_rfl) (by simp) ?_
     refine AllReadyIn.cons (o := ⟨some 8, Op.call { callee := Callee.value (Operand.tmp 4), args := #[Operand.tmp 7], argTypes := #[40] }, 4, _, _, none⟩) rfl (fun K hK => ?_) ?_
     ·obtain ⟨fn, tmps, assign, body, hy, hR⟩ := HYL.out v2 w2 HB2.out (by have := HBS1.out; exact HO2.out.mono this)
      go_simp
      refine (RoundIn.any hR).mono ?_
      clear hR hy
      rintro e W3 (⟨rfl, hw3⟩ | ⟨rfl, hw3⟩)
      ·have HW3 := hide (show Went J (fun k => v2.ownBlock = some k) [v2] M w2 W3 from hw3)
       clear hw3
       refine hK _ _ ?_
       clear hK K
       try simp only [Act.put, qA, qB, qC]
       refine wpAnyIn_ready (rs := [5]) (by kernel_rfl) (by simp) ?_
       refine AllReadyIn.cons (o := ⟨some 9, Op.unOp UnOp.not 4 (Operand.tmp 8), 4, _, _, none⟩) rfl (fun K hK => ?_) ?_
       ·go_simp
        refine hK _ _ ?_
        clear hK K
        try simp only [Act.put, qA, qB, qC]
        refine wpAnyIn_done (by kernel_rfl) ?_ _
        obtain ⟨M3, hJ3, hC3, hM3⟩ := HW3.out
        have hs3 := hC3.size
        have hs2 := HB2.out.size
        have hMin := HJ.out.in_ _ _ _ H0.out
        have hS3 := (HY0.out.chg (Chg.of_below HB2.out (fun _ => False)) (fun _ h => h.elim)).chg hC3 (fun k hk => (hMin k hk).1)
        have hyb3 : W3.cell? ⟨W1.heap.size, 0, none⟩ = some (.func (.yield l) #[] #[]) := hC3.cell hyb2 (fun h => by have := (hMin _ h).2; dsimp only at this; omega)
        have hnb3 : ¬ M3 W1.heap.size := fun h => by
         rcases hM3 _ h with h | h | h
         ·have := (hMin _ h).2
          omega
         ·omega
         ·have := (HO2.out.lt (by simp [recL, front]) _ h).1
          have := HBS1.out
          omega
        have HM3L := hide (fun k hk => (HJ.out.in_ _ _ _ hJ3 k hk).2)
        have HM3I := hide (fun k hk => (HJ.out.in_ _ _ _ hJ3 k hk).1)
        have hbox3 := hS3.box
        have hc3 := hS3.st.c3
        have HS3 := hide hS3
        have HJ3 := hide hJ3
        have HB3 := hide (show W1.heap.size + 1 ≤ W3.heap.size by omega)
        clear hS3 hJ3 hC3 hM3 hMin hyb2 hyb0 hbox0 hs3 hs2
        gi_wp2
        refine ⟨trivial, ?_⟩
        refine CallsIn.mono (callsIn_wide.2 chunk_any) ?_
        rintro e w' ⟨rfl, rfl⟩
        gi_wp2
        obtain ⟨W4, hW4⟩ : ∃ W4, (W3.alloc (.cells #[.slice pd nd cd] 40)).alloc (.cells #[.int .i64 512] 3) = W4 := ⟨_, rfl⟩
        have hk1 : W4.cell? ⟨W3.heap.size, 0, none⟩ = some (.slice pd nd cd) := by rw [← hW4]; simp
        have hk2 : W4.cell? ⟨W3.heap.size + 1, 0, none⟩ = some (.int .i64 512) := by
         have h1 : (W3.alloc (.cells #[.slice pd nd cd] 40)).heap.size = W3.heap.size + 1 := by simp
         rw [← hW4, ← h1]
         simp
        have hs4 : W4.heap.size = W3.heap.size + 2 := by rw [← hW4]; simp
        have hc4 : ∀ S, Chg W3 W4 S := fun S => by rw [← hW4]; exact (Chg.of_alloc _ _ S).then (Chg.of_alloc _ _ S) (fun _ h => .inl h)
        have hyb4 : W4.cell? ⟨W1.heap.size, 0, none⟩ = some (.func (.yield l) #[] #[]) := (hc4 (fun _ => False)).cell hyb3 (fun h => h)
        rw [hW4]
        have HB4 := HB3.out
        have HS4 := hide (HS3.out.chg (hc4 (fun _ => False)) (fun _ h => h.elim))
        have HJ4 := hide (HJ.out.chg _ _ _ _ HJ3.out (hc4 _))
        have HK := hide (And.intro hk1 hk2)
        clear hW4 hk1 hk2 hyb3 hbox3 hc3
        refine range_any (gf := 139) (lb := #[.pointer (some ⟨W3.heap.size, 0, none⟩), .pointer (some ⟨W3.heap.size + 1, 0, none⟩)]) rfl (enters_of Tryz.func139 (by kernel_rfl) rfl) (encs := fun x : Value => #[x]) (Y := ckY s.da) (Dn := fun pre => pre.length = s.pieces.length) (fun _ => rfl) M3 (fun k hk => by have := HM3L.out k hk; omega)
         (fun W5 hc5 hs5 => chunk_gives (hc5.cell HK.out.1 (fun h => h)) (hc5.cell HK.out.2 (fun h => h)) (By.below' HS4.out.st.by_ hc5) hds (fun h => by
           rcases h with h | h
           ·have := HM3L.out _ h; omega
           ·omega) (fun h => by
           rcases h with h | h
           ·have := HM3L.out _ h; omega
           ·omega) (fun a ha h0 => by
           subst ha
           obtain ⟨m1, m3⟩ := (HS4.out.m4.resolve_left (fun e => by have := HND.out; rw [e] at this; simp at this; omega)) a.block (by simp [Value.ownBlock])
           refine ⟨fun h => ?_, by omega⟩
           rcases h with h | h
           ·rcases HM3I.out _ h with h | h
            ·exact m1 h
            ·omega
           ·omega))
         (fun pre x N N' W o hlp hNN hy => by
          obtain ⟨r, hr⟩ := hlp
          obtain ⟨y, h1, h2⟩ := hy
          exact ⟨y, h1, h2.loop hr o⟩)
         (fun _ _ _ _ _ _ h => h.elim)
         (rcI J W1.heap.size l M3 W4.heap.size) (rcX Jx M3 W4.heap.size)
         ⟨?i1, ?i2⟩ (fun c => ⟨?x1, ?x2⟩) ⟨[v2], rfl, HJ4.out, hyb4, hnb3, fun k h => .inl h⟩
         (fun x => { tmps := #[.func (.yield l) #[] #[], .pointer (some ⟨bs, 0, none⟩), .pointer (some ⟨W1.heap.size, 0, none⟩), x, .func (.yield l) #[] #[], .pointer (some ⟨b, 0, none⟩), v1, v2, .bool true, .bool false, .pointer (some ⟨b, 0, none⟩), .pointer (some ⟨b, 0, none⟩), .pointer (some ⟨b, 0, none⟩), .pointer (some ⟨b, 3, none⟩), .slice pd nd cd, .func (.func 139) #[] #[.pointer (some ⟨W3.heap.size, 0, none⟩), .pointer (some ⟨W3.heap.size + 1, 0, none⟩)], x, undef, undef, undef, undef, undef], defers := [] })
         ?assign ?body ?done ?stop
        case i1 =>
         rintro pre N W ⟨vs, h1, h2, h3, h4, h5⟩ k hk
         exact ⟨h5 k hk, (HJ.out.in_ _ _ _ h2 k hk).2⟩
        case i2 =>
         rintro pre N W W' ⟨vs, h1, h2, h3, h4, h5⟩ hc
         exact ⟨vs, h1, HJ.out.chg _ _ _ _ h2 (hc.mono' fun k h => ⟨by omega, h.2⟩), hc.cell h3 (fun h => by dsimp only at h; omega), h4, h5⟩
        case x1 =>
         rintro pre N W ⟨rfl, vs, h2, h5⟩ k hk
         exact ⟨h5 k hk, (HJX.out.in_ _ _ _ h2 k hk).2⟩
        case x2 =>
         rintro pre N W W' ⟨rfl, vs, h2, h5⟩ hc
         exact ⟨rfl, vs, HJX.out.chg _ _ _ _ h2 (hc.mono' fun k h => ⟨by omega, h.2⟩), h5⟩
        case assign =>
         intro x W K hK
         gi_wp2
         exact hK
        case done =>
         rintro pre N W hD ⟨vs, h1, h2, h3, h4, h5⟩ hnD hsW hDef
         have hj := HJ.out.chg _ _ _ (W.putObj W4.heap.size (.deferred none)) h2 ((Chg.putObj _).mono' fun k h => by subst h; exact ⟨by omega, hnD⟩)
         have hsz : W1.heap.size ≤ (W.putObj W4.heap.size (.deferred none)).heap.size := by simp; omega
         gi_wp2
         refine ⟨by simp, .inl ⟨_, _, rfl, run_takeDeferred hDef, ?_⟩⟩
         exact ⟨_, results_none rfl _ _ _, ⟨_, rfl⟩, hsz, .inl ⟨vs, N, by rw [h1, hD]; simp [Sn.recs], hj⟩⟩
        case stop =>
         rintro c pre N W ⟨rfl, vs, h2, h5⟩ hnD hsW hDef
         have hj := HJX.out.chg _ _ _ (W.putObj W4.heap.size (.deferred none)) h2 ((Chg.putObj _).mono' fun k h => by subst h; exact ⟨by omega, hnD⟩)
         have hsz : W1.heap.size ≤ (W.putObj W4.heap.size (.deferred none)).heap.size := by simp; omega
         gi_wp2
         refine ⟨by simp, .inl ⟨_, _, rfl, run_takeDeferred hDef, ?_⟩⟩
         exact ⟨_, results_none rfl _ _ _, ⟨_, rfl⟩, hsz, .inr ⟨vs, N, hj⟩⟩
        case body =>
         rintro pre x N W ⟨vs, h1, h2, h3, h4, h5⟩ ⟨y, hy1, hy2⟩ hsW
         have hyl := piece_len (Nat.le_refl _) hy1
         have hrecs : s.recs[vs.length]? = some (recL y) := by
          rw [h1]
          show (recL s.head :: s.pieces.map recL)[pre.length + 1]? = _
          rw [List.getElem?_cons_succ, List.getElem?_map, show s.pieces[pre.length]? = some y from hy1]
          rfl
         have HNI := hide (HJ.out.in_ _ _ _ h2)
         have HYI : Hid (∀ (v4 : Value) (w4 : World), Below W.heap.size W w4 → Own W.heap.size w4 v4 (recL y) → YieldAt Fence.wide 3 Tryz.prog l #[v4] w4 fun e W' => (e = .returned (.bool true) ∧ Went J (fun k => v4.ownBlock = some k) (vs ++ [v4]) N w4 W') ∨ (e = .returned (.bool false) ∧ Went Jx (fun k => v4.ownBlock = some k) (vs ++ [v4]) N w4 W')) := hide (by
          intro v4 w4 hb4 ho4
          have hsz := hb4.size
          refine HY.out vs v4 N w4 (HJ.out.chg _ _ _ _ h2 (Chg.of_below hb4 _)) ⟨recL y, hrecs, ho4.mono (by omega), fun k hk hm => ?_⟩ (by omega)
          have e1 := (HNI.out k hm).2
          have e2 := (ho4.lt (by simp [recL, front]) k hk).1
          omega)
         have H1 := hide h1
         have H4 := hide h4
         have H5 := hide h5
         have HBYX := hide hy2
         clear h1 h4 h5 h2 hy1 hy2 hrecs
         have hsW1 : W1.heap.size < W.heap.size := by omega
         gi_wp2
         refine wpIn_region_any' (by kernel_rfl) ?_
         refine wpAnyIn_ready (rs := [0, 1]) (by kernel_rfl) (by simp) ?_
         refine AllReadyIn.cons (o := ⟨some 17, Op.load 168 (Operand.tmp 2), 168, _, _, none⟩) rfl (fun K hK => ?_) ?_
         ·go_simp
          refine hK _ _ ?_
          clear hK K
          try simp only [Act.put, qA, qB, qC]
          refine wpAnyIn_ready (rs := [1]) (by kernel_rfl) (by simp) ?_
          refine AllReadyIn.cons (o := ⟨some 18, Op.move (Operand.tmp 3), 40, _, _, none⟩) rfl (fun K hK => ?_) ?_
          ·go_simp
           refine hK _ _ ?_
           clear hK K
           try simp only [Act.put, qA, qB, qC]
           refine wpAnyIn_ready (rs := [2]) (by kernel_rfl) (by simp) ?_
           refine AllReadyIn.cons (o := ⟨some 19, Op.call { callee := Callee.value (Operand.func 121), args := #[Operand.tmp 18], argTypes := #[40] }, 40, _, _, none⟩) rfl (fun K hK => ?_) ?_
           ·go_simp
            refine ⟨trivial, ?_⟩
            refine CallsIn.mono (CallsIn.inRound _ (callsIn_wide.2 (recordV_any (HBYX.out.drewN 1) (Nat.le_trans hyl (by omega))))) ?_
            rintro e w4 ⟨v4, rfl, ho4, hb4⟩
            have hyb4' : w4.cell? ⟨W1.heap.size, 0, none⟩ = some (.func (.yield l) #[] #[]) := (hb4.cell hsW1).trans h3
            have HB4' : Hid (Below W.heap.size W w4) := hide ((below_drewN (Below.refl W.heap.size W) 1).trans hb4)
            have HO4 : Hid (Own W.heap.size w4 v4 (recL y)) := hide ho4
            clear ho4 hb4
            refine hK _ _ ?_
            clear hK K
            try simp only [Act.put, qA, qB, qC]
            refine wpAnyIn_ready (rs := [3]) (by kernel_rfl) (by simp) ?_
            refine AllReadyIn.cons (o := ⟨some 20, Op.call { callee := Callee.value (Operand.tmp 17), args := #[Operand.tmp 19], argTypes := #[40] }, 4, _, _, none⟩) rfl (fun K hK => ?_) ?_
            ·obtain ⟨fn, tmps, assign, body, hy, hR⟩ := HYI.out v4 w4 HB4'.out HO4.out
             go_simp
             refine (RoundIn.any' hR).mono ?_
             clear hR hy
             rintro e W5 (⟨rfl, hw5⟩ | ⟨rfl, hw5⟩)
             ·have HW5 := hide (show Went J (fun k => v4.ownBlock = some k) (vs ++ [v4]) N w4 W5 from hw5)
              clear hw5
              refine hK _ _ ?_
              clear hK K
              try simp only [Act.put, qA, qB, qC]
              refine wpAnyIn_ready (rs := [4]) (by kernel_rfl) (by simp) ?_
              refine AllReadyIn.cons (o := ⟨some 21, Op.unOp UnOp.not 4 (Operand.tmp 20), 4, _, _, none⟩) rfl (fun K hK => ?_) ?_
              ·go_simp
               refine hK _ _ ?_
               clear hK K
               try simp only [Act.put, qA, qB, qC]
               refine wpAnyIn_done (by kernel_rfl) ?_ _
               have hs4' := HB4'.out.size
               have hbc := Chg.of_below HB4'.out N
               obtain ⟨N5, hJ5, hC5, hN5⟩ := HW5.out
               have hcy := hC5.cell hyb4' H4.out
               gi_wp2
               exact ⟨N5, ⟨vs ++ [v4], by simp [H1.out], hJ5, hcy, fun h => by
                rcases hN5 _ h with h | h | h
                ·exact H4.out h
                ·omega
                ·have := (HO4.out.lt (by simp [recL, front]) _ h).1; omega, fun k hk => by
                rcases hN5 k hk with h | h | h
                ·exact (H5.out k h).imp id (fun h => by omega)
                ·exact .inr (by omega)
                ·exact .inr (by have := (HO4.out.lt (by simp [recL, front]) _ h).1; omega)⟩, hbc.then hC5 (fun k h => .inl h), fun k hk => by
                rcases hN5 k hk with h | h | h
                ·exact .inl h
                ·exact .inr (.inl (by omega))
                ·exact .inr (.inl (by have := (HO4.out.lt (by simp [recL, front]) _ h).1; omega))⟩
              exact AllReadyIn.nil
             ·have HW5 := hide (show Went Jx (fun k => v4.ownBlock = some k) (vs ++ [v4]) N w4 W5 from hw5)
              clear hw5
              refine hK _ _ ?_
              clear hK K
              try simp only [Act.put, qA, qB, qC]
              refine wpAnyIn_ready (rs := [4]) (by kernel_rfl) (by simp) ?_
              refine AllReadyIn.cons (o := ⟨some 21, Op.unOp UnOp.not 4 (Operand.tmp 20), 4, _, _, none⟩) rfl (fun K hK => ?_) ?_
              ·go_simp
               refine hK _ _ ?_
               clear hK K
               try simp only [Act.put, qA, qB, qC]
               refine wpAnyIn_done (by kernel_rfl) ?_ _
               have hs4' := HB4'.out.size
               have hbc := Chg.of_below HB4'.out N
               have HT : Hid (Went Jx (fun k => v4.ownBlock = some k) (vs ++ [v4]) N w4 W5) := HW5
               obtain ⟨N5, hJ5, hC5, hN5⟩ := HT.out
               gi_wp2
               exact ⟨N5, ⟨rfl, vs ++ [v4], hJ5, fun k hk => by
                rcases hN5 k hk with h | h | h
                ·exact (H5.out k h).imp id (fun h => by omega)
                ·exact .inr (by omega)
                ·exact .inr (by have := (HO4.out.lt (by simp [recL, front]) _ h).1; omega)⟩, hbc.then hC5 (fun k h => .inl h), fun k hk => by
                rcases hN5 k hk with h | h | h
                ·exact .inl h
                ·exact .inr (.inl (by omega))
                ·exact .inr (.inl (by have := (HO4.out.lt (by simp [recL, front]) _ h).1; omega))⟩
              exact AllReadyIn.nil
            exact AllReadyIn.nil
           exact AllReadyIn.nil
          exact AllReadyIn.nil
         refine AllReadyIn.cons (o := ⟨some 18, Op.move (Operand.tmp 3), 40, _, _, none⟩) rfl (fun K hK => ?_) ?_
         ·go_simp
          refine hK _ _ ?_
          clear hK K
          try simp only [Act.put, qA, qB, qC]
          refine wpAnyIn_ready (rs := [0, 2]) (by kernel_rfl) (by simp) ?_
          refine AllReadyIn.cons (o := ⟨some 17, Op.load 168 (Operand.tmp 2), 168, _, _, none⟩) rfl (fun K hK => ?_) ?_
          ·go_simp
           refine hK _ _ ?_
           clear hK K
           try simp only [Act.put, qA, qB, qC]
           refine wpAnyIn_ready (rs := [2]) (by kernel_rfl) (by simp) ?_
           refine AllReadyIn.cons (o := ⟨some 19, Op.call { callee := Callee.value (Operand.func 121), args := #[Operand.tmp 18], argTypes := #[40] }, 40, _, _, none⟩) rfl (fun K hK => ?_) ?_
           ·go_simp
            refine ⟨trivial, ?_⟩
            refine CallsIn.mono (CallsIn.inRound _ (callsIn_wide.2 (recordV_any (HBYX.out.drewN 1) (Nat.le_trans hyl (by omega))))) ?_
            rintro e w4 ⟨v4, rfl, ho4, hb4⟩
            have hyb4' : w4.cell? ⟨W1.heap.size, 0, none⟩ = some (.func (.yield l) #[] #[]) := (hb4.cell hsW1).trans h3
            have HB4' : Hid (Below W.heap.size W w4) := hide ((below_drewN (Below.refl W.heap.size W) 1).trans hb4)
            have HO4 : Hid (Own W.heap.size w4 v4 (recL y)) := hide ho4
            clear ho4 hb4
            refine hK _ _ ?_
            clear hK K
            try simp only [Act.put, qA, qB, qC]
            refine wpAnyIn_ready (rs := [3]) (by kernel_rfl) (by simp) ?_
            refine AllReadyIn.cons (o := ⟨some 20, Op.call { callee := Callee.value (Operand.tmp 17), args := #[Operand.tmp 19], argTypes := #[40] }, 4, _, _, none⟩) rfl (fun K hK => ?_) ?_
            ·obtain ⟨fn, tmps, assign, body, hy, hR⟩ := HYI.out v4 w4 HB4'.out HO4.out
             go_simp
             refine (RoundIn.any' hR).mono ?_
             clear hR hy
             rintro e W5 (⟨rfl, hw5⟩ | ⟨rfl, hw5⟩)
             ·have HW5 := hide (show Went J (fun k => v4.ownBlock = some k) (vs ++ [v4]) N w4 W5 from hw5)
              clear hw5
              refine hK _ _ ?_
              clear hK K
              try simp only [Act.put, qA, qB, qC]
              refine wpAnyIn_ready (rs := [4]) (by kernel_rfl) (by simp) ?_
              refine AllReadyIn.cons (o := ⟨some 21, Op.unOp UnOp.not 4 (Operand.tmp 20), 4, _, _, none⟩) rfl (fun K hK => ?_) ?_
              ·go_simp
               refine hK _ _ ?_
               clear hK K
               try simp only [Act.put, qA, qB, qC]
               refine wpAnyIn_done (by kernel_rfl) ?_ _
               have hs4' := HB4'.out.size
               have hbc := Chg.of_below HB4'.out N
               obtain ⟨N5, hJ5, hC5, hN5⟩ := HW5.out
               have hcy := hC5.cell hyb4' H4.out
               gi_wp2
               exact ⟨N5, ⟨vs ++ [v4], by simp [H1.out], hJ5, hcy, fun h => by
                rcases hN5 _ h with h | h | h
                ·exact H4.out h
                ·omega
                ·have := (HO4.out.lt (by simp [recL, front]) _ h).1; omega, fun k hk => by
                rcases hN5 k hk with h | h | h
                ·exact (H5.out k h).imp id (fun h => by omega)
                ·exact .inr (by omega)
                ·exact .inr (by have := (HO4.out.lt (by simp [recL, front]) _ h).1; omega)⟩, hbc.then hC5 (fun k h => .inl h), fun k hk => by
                rcases hN5 k hk with h | h | h
                ·exact .inl h
                ·exact .inr (.inl (by omega))
                ·exact .inr (.inl (by have := (HO4.out.lt (by simp [recL, front]) _ h).1; omega))⟩
              exact AllReadyIn.nil
             ·have HW5 := hide (show Went Jx (fun k => v4.ownBlock = some k) (vs ++ [v4]) N w4 W5 from hw5)
              clear hw5
              refine hK _ _ ?_
              clear hK K
              try simp only [Act.put, qA, qB, qC]
              refine wpAnyIn_ready (rs := [4]) (by kernel_rfl) (by simp) ?_
              refine AllReadyIn.cons (o := ⟨some 21, Op.unOp UnOp.not 4 (Operand.tmp 20), 4, _, _, none⟩) rfl (fun K hK => ?_) ?_
              ·go_simp
               refine hK _ _ ?_
               clear hK K
               try simp only [Act.put, qA, qB, qC]
               refine wpAnyIn_done (by kernel_rfl) ?_ _
               have hs4' := HB4'.out.size
               have hbc := Chg.of_below HB4'.out N
               have HT : Hid (Went Jx (fun k => v4.ownBlock = some k) (vs ++ [v4]) N w4 W5) := HW5
               obtain ⟨N5, hJ5, hC5, hN5⟩ := HT.out
               gi_wp2
               exact ⟨N5, ⟨rfl, vs ++ [v4], hJ5, fun k hk => by
                rcases hN5 k hk with h | h | h
                ·exact (H5.out k h).imp id (fun h => by omega)
                ·exact .inr (by omega)
                ·exact .inr (by have := (HO4.out.lt (by simp [recL, front]) _ h).1; omega)⟩, hbc.then hC5 (fun k h => .inl h), fun k hk => by
                rcases hN5 k hk with h | h | h
                ·exact .inl h
                ·exact .inr (.inl (by omega))
                ·exact .inr (.inl (by have := (HO4.out.lt (by simp [recL, front]) _ h).1; omega))⟩
              exact AllReadyIn.nil
            exact AllReadyIn.nil
           exact AllReadyIn.nil
          refine AllReadyIn.cons (o := ⟨some 19, Op.call { callee := Callee.value (Operand.func 121), args := #[Operand.tmp 18], argTypes := #[40] }, 40, _, _, none⟩) rfl (fun K hK => ?_) ?_
          ·go_simp
           refine ⟨trivial, ?_⟩
           refine CallsIn.mono (CallsIn.inRound _ (callsIn_wide.2 (recordV_any (HBYX.out.drewN 1) (Nat.le_trans hyl (by omega))))) ?_
           rintro e w4 ⟨v4, rfl, ho4, hb4⟩
           have hyb4' : w4.cell? ⟨W1.heap.size, 0, none⟩ = some (.func (.yield l) #[] #[]) := (hb4.cell hsW1).trans h3
           have HB4' : Hid (Below W.heap.size W w4) := hide ((below_drewN (Below.refl W.heap.size W) 1).trans hb4)
           have HO4 : Hid (Own W.heap.size w4 v4 (recL y)) := hide ho4
           clear ho4 hb4
           refine hK _ _ ?_
           clear hK K
           try simp only [Act.put, qA, qB, qC]
           refine wpAnyIn_ready (rs := [0]) (by kernel_rfl) (by simp) ?_
           refine AllReadyIn.cons (o := ⟨some 17, Op.load 168 (Operand.tmp 2), 168, _, _, none⟩) rfl (fun K hK => ?_) ?_
           ·go_simp
            refine hK _ _ ?_
            clear hK K
            try simp only [Act.put, qA, qB, qC]
            refine wpAnyIn_ready (rs := [3]) (by kernel_rfl) (by simp) ?_
            refine AllReadyIn.cons (o := ⟨some 20, Op.call { callee := Callee.value (Operand.tmp 17), args := #[Operand.tmp 19], argTypes := #[40] }, 4, _, _, none⟩) rfl (fun K hK => ?_) ?_
            ·obtain ⟨fn, tmps, assign, body, hy, hR⟩ := HYI.out v4 w4 HB4'.out HO4.out
             go_simp
             refine (RoundIn.any' hR).mono ?_
             clear hR hy
             rintro e W5 (⟨rfl, hw5⟩ | ⟨rfl, hw5⟩)
             ·have HW5 := hide (show Went J (fun k => v4.ownBlock = some k) (vs ++ [v4]) N w4 W5 from hw5)
              clear hw5
              refine hK _ _ ?_
              clear hK K
              try simp only [Act.put, qA, qB, qC]
              refine wpAnyIn_ready (rs := [4]) (by kernel_rfl) (by simp) ?_
              refine AllReadyIn.cons (o := ⟨some 21, Op.unOp UnOp.not 4 (Operand.tmp 20), 4, _, _, none⟩) rfl (fun K hK => ?_) ?_
              ·go_simp
               refine hK _ _ ?_
               clear hK K
               try simp only [Act.put, qA, qB, qC]
               refine wpAnyIn_done (by kernel_rfl) ?_ _
               have hs4' := HB4'.out.size
               have hbc := Chg.of_below HB4'.out N
               obtain ⟨N5, hJ5, hC5, hN5⟩ := HW5.out
               have hcy := hC5.cell hyb4' H4.out
               gi_wp2
               exact ⟨N5, ⟨vs ++ [v4], by simp [H1.out], hJ5, hcy, fun h => by
                rcases hN5 _ h with h | h | h
                ·exact H4.out h
                ·omega
                ·have := (HO4.out.lt (by simp [recL, front]) _ h).1; omega, fun k hk => by
                rcases hN5 k hk with h | h | h
                ·exact (H5.out k h).imp id (fun h => by omega)
                ·exact .inr (by omega)
                ·exact .inr (by have := (HO4.out.lt (by simp [recL, front]) _ h).1; omega)⟩, hbc.then hC5 (fun k h => .inl h), fun k hk => by
                rcases hN5 k hk with h | h | h
                ·exact .inl h
                ·exact .inr (.inl (by omega))
                ·exact .inr (.inl (by have := (HO4.out.lt (by simp [recL, front]) _ h).1; omega))⟩
              exact AllReadyIn.nil
             ·have HW5 := hide (show Went Jx (fun k => v4.ownBlock = some k) (vs ++ [v4]) N w4 W5 from hw5)
              clear hw5
              refine hK _ _ ?_
              clear hK K
              try simp only [Act.put, qA, qB, qC]
              refine wpAnyIn_ready (rs := [4]) (by kernel_rfl) (by simp) ?_
              refine AllReadyIn.cons (o := ⟨some 21, Op.unOp UnOp.not 4 (Operand.tmp 20), 4, _, _, none⟩) rfl (fun K hK => ?_) ?_
              ·go_simp
               refine hK _ _ ?_
               clear hK K
               try simp only [Act.put, qA, qB, qC]
               refine wpAnyIn_done (by kernel_rfl) ?_ _
               have hs4' := HB4'.out.size
               have hbc := Chg.of_below HB4'.out N
               have HT : Hid (Went Jx (fun k => v4.ownBlock = some k) (vs ++ [v4]) N w4 W5) := HW5
               obtain ⟨N5, hJ5, hC5, hN5⟩ := HT.out
               gi_wp2
               exact ⟨N5, ⟨rfl, vs ++ [v4], hJ5, fun k hk => by
                rcases hN5 k hk with h | h | h
                ·exact (H5.out k h).imp id (fun h => by omega)
                ·exact .inr (by omega)
                ·exact .inr (by have := (HO4.out.lt (by simp [recL, front]) _ h).1; omega)⟩, hbc.then hC5 (fun k h => .inl h), fun k hk => by
                rcases hN5 k hk with h | h | h
                ·exact .inl h
                ·exact .inr (.inl (by omega))
                ·exact .inr (.inl (by have := (HO4.out.lt (by simp [recL, front]) _ h).1; omega))⟩
              exact AllReadyIn.nil
            exact AllReadyIn.nil
           exact AllReadyIn.nil
          exact AllReadyIn.nil
         exact AllReadyIn.nil
       exact AllReadyIn.nil
      ·have HW3 := hide (show Went Jx (fun k => v2.ownBlock = some k) [v2] M w2 W3 from hw3)
       clear hw3
       refine hK _ _ ?_
       clear hK K
       try simp only [Act.put, qA, qB, qC]
       refine wpAnyIn_ready (rs := [5]) (by kernel_rfl) (by simp) ?_
       refine AllReadyIn.cons (o := ⟨some 9, Op.unOp UnOp.not 4 (Operand.tmp 8), 4, _, _, none⟩) rfl (fun K hK => ?_) ?_
       ·go_simp
        refine hK _ _ ?_
        clear hK K
        try simp only [Act.put, qA, qB, qC]
        refine wpAnyIn_done (by kernel_rfl) ?_ _
        have HT : Hid (Went Jx (fun k => v2.ownBlock = some k) [v2] M w2 W3) := HW3
        obtain ⟨M3, hJ3, hC3, _⟩ := HT.out
        have hs3 := hC3.size
        have hs2 := HB2.out.size
        gi_wp2
        exact ⟨_, results_none rfl _ _ _, ⟨_, rfl⟩, by omega, .inr ⟨_, _, hJ3⟩⟩
       exact AllReadyIn.nil
     exact AllReadyIn.nil
    exact AllReadyIn.nil
   exact AllReadyIn.nil
  exact AllReadyIn.nil
 refine AllReadyIn.cons (o := ⟨some 5, Op.load 150 (Operand.tmp 1), 150, _, _, none⟩) rfl (fun K hK => ?_) ?_
 ·go_simp
  refine hK _ _ ?_
  clear hK K
  try simp only [Act.put, qA, qB, qC]
  refine wpAnyIn_ready (rs := [0, 2]) (by kernel_rfl) (by simp) ?_
  refine AllReadyIn.cons (o := ⟨some 4, Op.load 168 (Operand.tmp 2), 168, _, _, none⟩) rfl (fun K hK => ?_) ?_
  ·go_simp
   refine hK _ _ ?_
   clear hK K
   try simp only [Act.put, qA, qB, qC]
   refine wpAnyIn_ready (rs := [2]) (by kernel_rfl) (by simp) ?_
   refine AllReadyIn.cons (o := ⟨some 6, Op.call { callee := Callee.value (Operand.func 122), args := #[Operand.tmp 5], argTypes := #[150] }, 40, _, _, none⟩) rfl (fun K hK => ?_) ?_
   ·go_simp
    refine ⟨trivial, ?_⟩
    refine CallsIn.mono (callsIn_wide.2 (head_any HY0.out.st (by omega))) ?_
    rintro e w1 ⟨v1, rfl, ho1, hb1⟩
    have hyb1 : w1.cell? ⟨W1.heap.size, 0, none⟩ = some (.func (.yield l) #[] #[]) := (hb1.cell (lt_of_cell hyb0)).trans hyb0
    have HO1 := hide ho1
    have HB1 := hide hb1
    clear ho1 hb1
    refine hK _ _ ?_
    clear hK K
    try simp only [Act.put, qA, qB, qC]
    refine wpAnyIn_ready (rs := [3]) (by kernel_rfl) (by simp) ?_
    refine AllReadyIn.cons (o := ⟨some 7, Op.call { callee := Callee.value (Operand.func 121), args := #[Operand.tmp 6], argTypes := #[40] }, 40, _, _, none⟩) rfl (fun K hK => ?_) ?_
    ·go_simp
     refine ⟨trivial, ?_⟩
     refine CallsIn.mono (callsIn_wide.2 (recordV_any HO1.out.by_ HHL.out)) ?_
     rintro e w2 ⟨v2, rfl, ho2, hb2⟩
     have hyb2 : w2.cell? ⟨W1.heap.size, 0, none⟩ = some (.func (.yield l) #[] #[]) := (HB1.out.trans (hb2.mono HB1.out.size)).cell (lt_of_cell hyb0) |>.trans hyb0
     have HO2 := hide ho2
     have HB2 := hide (HB1.out.trans (hb2.mono HB1.out.size))
     have HBS := hide (show w1.heap.size ≤ w2.heap.size from hb2.size)
     have HBS1 := hide HB1.out.size
     clear ho2 hb2
     refine hK _ _ ?_
     clear hK K
     try simp only [Act.put, qA, qB, qC]
     refine wpAnyIn_ready (rs := [4]) (by kernel_rfl) (by simp) ?_
     refine AllReadyIn.cons (o := ⟨some 8, Op.call { callee := Callee.value (Operand.tmp 4), args := #[Operand.tmp 7], argTypes := #[40] }, 4, _, _, none⟩) rfl (fun K hK => ?_) ?_
     ·obtain ⟨fn, tmps, assign, body, hy, hR⟩ := HYL.out v2 w2 HB2.out (by have := HBS1.out; exact HO2.out.mono this)
      go_simp
      refine (RoundIn.any hR).mono ?_
      clear hR hy
      rintro e W3 (⟨rfl, hw3⟩ | ⟨rfl, hw3⟩)
      ·have HW3 := hide (show Went J (fun k => v2.ownBlock = some k) [v2] M w2 W3 from hw3)
       clear hw3
       refine hK _ _ ?_
       clear hK K
       try simp only [Act.put, qA, qB, qC]
       refine wpAnyIn_ready (rs := [5]) (by kernel_rfl) (by simp) ?_
       refine AllReadyIn.cons (o := ⟨some 9, Op.unOp UnOp.not 4 (Operand.tmp 8), 4, _, _, none⟩) rfl (fun K hK => ?_) ?_
       ·go_simp
        refine hK _ _ ?_
        clear hK K
        try simp only [Act.put, qA, qB, qC]
        refine wpAnyIn_done (by kernel_rfl) ?_ _
        obtain ⟨M3, hJ3, hC3, hM3⟩ := HW3.out
        have hs3 := hC3.size
        have hs2 := HB2.out.size
        have hMin := HJ.out.in_ _ _ _ H0.out
        have hS3 := (HY0.out.chg (Chg.of_below HB2.out (fun _ => False)) (fun _ h => h.elim)).chg hC3 (fun k hk => (hMin k hk).1)
        have hyb3 : W3.cell? ⟨W1.heap.size, 0, none⟩ = some (.func (.yield l) #[] #[]) := hC3.cell hyb2 (fun h => by have := (hMin _ h).2; dsimp only at this; omega)
        have hnb3 : ¬ M3 W1.heap.size := fun h => by
         rcases hM3 _ h with h | h | h
         ·have := (hMin _ h).2
          omega
         ·omega
         ·have := (HO2.out.lt (by simp [recL, front]) _ h).1
          have := HBS1.out
          omega
        have HM3L := hide (fun k hk => (HJ.out.in_ _ _ _ hJ3 k hk).2)
        have HM3I := hide (fun k hk => (HJ.out.in_ _ _ _ hJ3 k hk).1)
        have hbox3 := hS3.box
        have hc3 := hS3.st.c3
        have HS3 := hide hS3
        have HJ3 := hide hJ3
        have HB3 := hide (show W1.heap.size + 1 ≤ W3.heap.size by omega)
        clear hS3 hJ3 hC3 hM3 hMin hyb2 hyb0 hbox0 hs3 hs2
        gi_wp2
        refine ⟨trivial, ?_⟩
        refine CallsIn.mono (callsIn_wide.2 chunk_any) ?_
        rintro e w' ⟨rfl, rfl⟩
        gi_wp2
        obtain ⟨W4, hW4⟩ : ∃ W4, (W3.alloc (.cells #[.slice pd nd cd] 40)).alloc (.cells #[.int .i64 512] 3) = W4 := ⟨_, rfl⟩
        have hk1 : W4.cell? ⟨W3.heap.size, 0, none⟩ = some (.slice pd nd cd) := by rw [← hW4]; simp
        have hk2 : W4.cell? ⟨W3.heap.size + 1, 0, none⟩ = some (.int .i64 512) := by
         have h1 : (W3.alloc (.cells #[.slice pd nd cd] 40)).heap.size = W3.heap.size + 1 := by simp
         rw [← hW4, ← h1]
         simp
        have hs4 : W4.heap.size = W3.heap.size + 2 := by rw [← hW4]; simp
        have hc4 : ∀ S, Chg W3 W4 S := fun S => by rw [← hW4]; exact (Chg.of_alloc _ _ S).then (Chg.of_alloc _ _ S) (fun _ h => .inl h)
        have hyb4 : W4.cell? ⟨W1.heap.size, 0, none⟩ = some (.func (.yield l) #[] #[]) := (hc4 (fun _ => False)).cell hyb3 (fun h => h)
        rw [hW4]
        have HB4 := HB3.out
        have HS4 := hide (HS3.out.chg (hc4 (fun _ => False)) (fun _ h => h.elim))
        have HJ4 := hide (HJ.out.chg _ _ _ _ HJ3.out (hc4 _))
        have HK := hide (And.intro hk1 hk2)
        clear hW4 hk1 hk2 hyb3 hbox3 hc3
        refine range_any (gf := 139) (lb := #[.pointer (some ⟨W3.heap.size, 0, none⟩), .pointer (some ⟨W3.heap.size + 1, 0, none⟩)]) rfl (enters_of Tryz.func139 (by kernel_rfl) rfl) (encs := fun x : Value => #[x]) (Y := ckY s.da) (Dn := fun pre => pre.length = s.pieces.length) (fun _ => rfl) M3 (fun k hk => by have := HM3L.out k hk; omega)
         (fun W5 hc5 hs5 => chunk_gives (hc5.cell HK.out.1 (fun h => h)) (hc5.cell HK.out.2 (fun h => h)) (By.below' HS4.out.st.by_ hc5) hds (fun h => by
           rcases h with h | h
           ·have := HM3L.out _ h; omega
           ·omega) (fun h => by
           rcases h with h | h
           ·have := HM3L.out _ h; omega
           ·omega) (fun a ha h0 => by
           subst ha
           obtain ⟨m1, m3⟩ := (HS4.out.m4.resolve_left (fun e => by have := HND.out; rw [e] at this; simp at this; omega)) a.block (by simp [Value.ownBlock])
           refine ⟨fun h => ?_, by omega⟩
           rcases h with h | h
           ·rcases HM3I.out _ h with h | h
            ·exact m1 h
            ·omega
           ·omega))
         (fun pre x N N' W o hlp hNN hy => by
          obtain ⟨r, hr⟩ := hlp
          obtain ⟨y, h1, h2⟩ := hy
          exact ⟨y, h1, h2.loop hr o⟩)
         (fun _ _ _ _ _ _ h => h.elim)
         (rcI J W1.heap.size l M3 W4.heap.size) (rcX Jx M3 W4.heap.size)
         ⟨?i1, ?i2⟩ (fun c => ⟨?x1, ?x2⟩) ⟨[v2], rfl, HJ4.out, hyb4, hnb3, fun k h => .inl h⟩
         (fun x => { tmps := #[.func (.yield l) #[] #[], .pointer (some ⟨bs, 0, none⟩), .pointer (some ⟨W1.heap.size, 0, none⟩), x, .func (.yield l) #[] #[], .pointer (some ⟨b, 0, none⟩), v1, v2, .bool true, .bool false, .pointer (some ⟨b, 0, none⟩), .pointer (some ⟨b, 0, none⟩), .pointer (some ⟨b, 0, none⟩), .pointer (some ⟨b, 3, none⟩), .slice pd nd cd, .func (.func 139) #[] #[.pointer (some ⟨W3.heap.size, 0, none⟩), .pointer (some ⟨W3.heap.size + 1, 0, none⟩)], x, undef, undef, undef, undef, undef], defers := [] })
         ?assign ?body ?done ?stop
        case i1 =>
         rintro pre N W ⟨vs, h1, h2, h3, h4, h5⟩ k hk
         exact ⟨h5 k hk, (HJ.out.in_ _ _ _ h2 k hk).2⟩
        case i2 =>
         rintro pre N W W' ⟨vs, h1, h2, h3, h4, h5⟩ hc
         exact ⟨vs, h1, HJ.out.chg _ _ _ _ h2 (hc.mono' fun k h => ⟨by omega, h.2⟩), hc.cell h3 (fun h => by dsimp only at h; omega), h4, h5⟩
        case x1 =>
         rintro pre N W ⟨rfl, vs, h2, h5⟩ k hk
         exact ⟨h5 k hk, (HJX.out.in_ _ _ _ h2 k hk).2⟩
        case x2 =>
         rintro pre N W W' ⟨rfl, vs, h2, h5⟩ hc
         exact ⟨rfl, vs, HJX.out.chg _ _ _ _ h2 (hc.mono' fun k h => ⟨by omega, h.2⟩), h5⟩
        case assign =>
         intro x W K hK
         gi_wp2
         exact hK
        case done =>
         rintro pre N W hD ⟨vs, h1, h2, h3, h4, h5⟩ hnD hsW hDef
         have hj := HJ.out.chg _ _ _ (W.putObj W4.heap.size (.deferred none)) h2 ((Chg.putObj _).mono' fun k h => by subst h; exact ⟨by omega, hnD⟩)
         have hsz : W1.heap.size ≤ (W.putObj W4.heap.size (.deferred none)).heap.size := by simp; omega
         gi_wp2
         refine ⟨by simp, .inl ⟨_, _, rfl, run_takeDeferred hDef, ?_⟩⟩
         exact ⟨_, results_none rfl _ _ _, ⟨_, rfl⟩, hsz, .inl ⟨vs, N, by rw [h1, hD]; simp [Sn.recs], hj⟩⟩
        case stop =>
         rintro c pre N W ⟨rfl, vs, h2, h5⟩ hnD hsW hDef
         have hj := HJX.out.chg _ _ _ (W.putObj W4.heap.size (.deferred none)) h2 ((Chg.putObj _).mono' fun k h => by subst h; exact ⟨by omega, hnD⟩)
         have hsz : W1.heap.size ≤ (W.putObj W4.heap.size (.deferred none)).heap.size := by simp; omega
         gi_wp2
         refine ⟨by simp, .inl ⟨_, _, rfl, run_takeDeferred hDef, ?_⟩⟩
         exact ⟨_, results_none rfl _ _ _, ⟨_, rfl⟩, hsz, .inr ⟨vs, N, hj⟩⟩
        case body =>
         rintro pre x N W ⟨vs, h1, h2, h3, h4, h5⟩ ⟨y, hy1, hy2⟩ hsW
         have hyl := piece_len (Nat.le_refl _) hy1
         have hrecs : s.recs[vs.length]? = some (recL y) := by
          rw [h1]
          show (recL s.head :: s.pieces.map recL)[pre.length + 1]? = _
          rw [List.getElem?_cons_succ, List.getElem?_map, show s.pieces[pre.length]? = some y from hy1]
          rfl
         have HNI := hide (HJ.out.in_ _ _ _ h2)
         have HYI : Hid (∀ (v4 : Value) (w4 : World), Below W.heap.size W w4 → Own W.heap.size w4 v4 (recL y) → YieldAt Fence.wide 3 Tryz.prog l #[v4] w4 fun e W' => (e = .returned (.bool true) ∧ Went J (fun k => v4.ownBlock = some k) (vs ++ [v4]) N w4 W') ∨ (e = .returned (.bool false) ∧ Went Jx (fun k => v4.ownBlock = some k) (vs ++ [v4]) N w4 W')) := hide (by
          intro v4 w4 hb4 ho4
          have hsz := hb4.size
          refine HY.out vs v4 N w4 (HJ.out.chg _ _ _ _ h2 (Chg.of_below hb4 _)) ⟨recL y, hrecs, ho4.mono (by omega), fun k hk hm => ?_⟩ (by omega)
          have e1 := (HNI.out k hm).2
          have e2 := (ho4.lt (by simp [recL, front]) k hk).1
          omega)
         have H1 := hide h1
         have H4 := hide h4
         have H5 := hide h5
         have HBYX := hide hy2
         clear h1 h4 h5 h2 hy1 hy2 hrecs
         have hsW1 : W1.heap.size < W.heap.size := by omega
         gi_wp2
         refine wpIn_region_any' (by kernel_rfl) ?_
         refine wpAnyIn_ready (rs := [0, 1]) (by kernel_rfl) (by simp) ?_
         refine AllReadyIn.cons (o := ⟨some 17, Op.load 168 (Operand.tmp 2), 168, _, _, none⟩) rfl (fun K hK => ?_) ?_
         ·go_simp
          refine hK _ _ ?_
          clear hK K
          try simp only [Act.put, qA, qB, qC]
          refine wpAnyIn_ready (rs := [1]) (by kernel_rfl) (by simp) ?_
          refine AllReadyIn.cons (o := ⟨some 18, Op.move (Operand.tmp 3), 40, _, _, none⟩) rfl (fun K hK => ?_) ?_
          ·go_simp
           refine hK _ _ ?_
           clear hK K
           try simp only [Act.put, qA, qB, qC]
           refine wpAnyIn_ready (rs := [2]) (by kernel_rfl) (by simp) ?_
           refine AllReadyIn.cons (o := ⟨some 19, Op.call { callee := Callee.value (Operand.func 121), args := #[Operand.tmp 18], argTypes := #[40] }, 40, _, _, none⟩) rfl (fun K hK => ?_) ?_
           ·go_simp
            refine ⟨trivial, ?_⟩
            refine CallsIn.mono (CallsIn.inRound _ (callsIn_wide.2 (recordV_any (HBYX.out.drewN 1) (Nat.le_trans hyl (by omega))))) ?_
            rintro e w4 ⟨v4, rfl, ho4, hb4⟩
            have hyb4' : w4.cell? ⟨W1.heap.size, 0, none⟩ = some (.func (.yield l) #[] #[]) := (hb4.cell hsW1).trans h3
            have HB4' : Hid (Below W.heap.size W w4) := hide ((below_drewN (Below.refl W.heap.size W) 1).trans hb4)
            have HO4 : Hid (Own W.heap.size w4 v4 (recL y)) := hide ho4
            clear ho4 hb4
            refine hK _ _ ?_
            clear hK K
            try simp only [Act.put, qA, qB, qC]
            refine wpAnyIn_ready (rs := [3]) (by kernel_rfl) (by simp) ?_
            refine AllReadyIn.cons (o := ⟨some 20, Op.call { callee := Callee.value (Operand.tmp 17), args := #[Operand.tmp 19], argTypes := #[40] }, 4, _, _, none⟩) rfl (fun K hK => ?_) ?_
            ·obtain ⟨fn, tmps, assign, body, hy, hR⟩ := HYI.out v4 w4 HB4'.out HO4.out
             go_simp
             refine (RoundIn.any' hR).mono ?_
             clear hR hy
             rintro e W5 (⟨rfl, hw5⟩ | ⟨rfl, hw5⟩)
             ·have HW5 := hide (show Went J (fun k => v4.ownBlock = some k) (vs ++ [v4]) N w4 W5 from hw5)
              clear hw5
              refine hK _ _ ?_
              clear hK K
              try simp only [Act.put, qA, qB, qC]
              refine wpAnyIn_ready (rs := [4]) (by kernel_rfl) (by simp) ?_
              refine AllReadyIn.cons (o := ⟨some 21, Op.unOp UnOp.not 4 (Operand.tmp 20), 4, _, _, none⟩) rfl (fun K hK => ?_) ?_
              ·go_simp
               refine hK _ _ ?_
               clear hK K
               try simp only [Act.put, qA, qB, qC]
               refine wpAnyIn_done (by kernel_rfl) ?_ _
               have hs4' := HB4'.out.size
               have hbc := Chg.of_below HB4'.out N
               obtain ⟨N5, hJ5, hC5, hN5⟩ := HW5.out
               have hcy := hC5.cell hyb4' H4.out
               gi_wp2
               exact ⟨N5, ⟨vs ++ [v4], by simp [H1.out], hJ5, hcy, fun h => by
                rcases hN5 _ h with h | h | h
                ·exact H4.out h
                ·omega
                ·have := (HO4.out.lt (by simp [recL, front]) _ h).1; omega, fun k hk => by
                rcases hN5 k hk with h | h | h
                ·exact (H5.out k h).imp id (fun h => by omega)
                ·exact .inr (by omega)
                ·exact .inr (by have := (HO4.out.lt (by simp [recL, front]) _ h).1; omega)⟩, hbc.then hC5 (fun k h => .inl h), fun k hk => by
                rcases hN5 k hk with h | h | h
                ·exact .inl h
                ·exact .inr (.inl (by omega))
                ·exact .inr (.inl (by have := (HO4.out.lt (by simp [recL, front]) _ h).1; omega))⟩
              exact AllReadyIn.nil
             ·have HW5 := hide (show Went Jx (fun k => v4.ownBlock = some k) (vs ++ [v4]) N w4 W5 from hw5)
              clear hw5
              refine hK _ _ ?_
              clear hK K
              try simp only [Act.put, qA, qB, qC]
              refine wpAnyIn_ready (rs := [4]) (by kernel_rfl) (by simp) ?_
              refine AllReadyIn.cons (o := ⟨some 21, Op.unOp UnOp.not 4 (Operand.tmp 20), 4, _, _, none⟩) rfl (fun K hK => ?_) ?_
              ·go_simp
               refine hK _ _ ?_
               clear hK K
               try simp only [Act.put, qA, qB, qC]
               refine wpAnyIn_done (by kernel_rfl) ?_ _
               have hs4' := HB4'.out.size
               have hbc := Chg.of_below HB4'.out N
               have HT : Hid (Went Jx (fun k => v4.ownBlock = some k) (vs ++ [v4]) N w4 W5) := HW5
               obtain ⟨N5, hJ5, hC5, hN5⟩ := HT.out
               gi_wp2
               exact ⟨N5, ⟨rfl, vs ++ [v4], hJ5, fun k hk => by
                rcases hN5 k hk with h | h | h
                ·exact (H5.out k h).imp id (fun h => by omega)
                ·exact .inr (by omega)
                ·exact .inr (by have := (HO4.out.lt (by simp [recL, front]) _ h).1; omega)⟩, hbc.then hC5 (fun k h => .inl h), fun k hk => by
                rcases hN5 k hk with h | h | h
                ·exact .inl h
                ·exact .inr (.inl (by omega))
                ·exact .inr (.inl (by have := (HO4.out.lt (by simp [recL, front]) _ h).1; omega))⟩
              exact AllReadyIn.nil
            exact AllReadyIn.nil
           exact AllReadyIn.nil
          exact AllReadyIn.nil
         refine AllReadyIn.cons (o := ⟨some 18, Op.move (Operand.tmp 3), 40, _, _, none⟩) rfl (fun K hK => ?_) ?_
         ·go_simp
          refine hK _ _ ?_
          clear hK K
          try simp only [Act.put, qA, qB, qC]
          refine wpAnyIn_ready (rs := [0, 2]) (by kernel_rfl) (by simp) ?_
          refine AllReadyIn.cons (o := ⟨some 17, Op.load 168 (Operand.tmp 2), 168, _, _, none⟩) rfl (fun K hK => ?_) ?_
          ·go_simp
           refine hK _ _ ?_
           clear hK K
           try simp only [Act.put, qA, qB, qC]
           refine wpAnyIn_ready (rs := [2]) (by kernel_rfl) (by simp) ?_
           refine AllReadyIn.cons (o := ⟨some 19, Op.call { callee := Callee.value (Operand.func 121), args := #[Operand.tmp 18], argTypes := #[40] }, 40, _, _, none⟩) rfl (fun K hK => ?_) ?_
           ·go_simp
            refine ⟨trivial, ?_⟩
            refine CallsIn.mono (CallsIn.inRound _ (callsIn_wide.2 (recordV_any (HBYX.out.drewN 1) (Nat.le_trans hyl (by omega))))) ?_
            rintro e w4 ⟨v4, rfl, ho4, hb4⟩
            have hyb4' : w4.cell? ⟨W1.heap.size, 0, none⟩ = some (.func (.yield l) #[] #[]) := (hb4.cell hsW1).trans h3
            have HB4' : Hid (Below W.heap.size W w4) := hide ((below_drewN (Below.refl W.heap.size W) 1).trans hb4)
            have HO4 : Hid (Own W.heap.size w4 v4 (recL y)) := hide ho4
            clear ho4 hb4
            refine hK _ _ ?_
            clear hK K
            try simp only [Act.put, qA, qB, qC]
            refine wpAnyIn_ready (rs := [3]) (by kernel_rfl) (by simp) ?_
            refine AllReadyIn.cons (o := ⟨some 20, Op.call { callee := Callee.value (Operand.tmp 17), args := #[Operand.tmp 19], argTypes := #[40] }, 4, _, _, none⟩) rfl (fun K hK => ?_) ?_
            ·obtain ⟨fn, tmps, assign, body, hy, hR⟩ := HYI.out v4 w4 HB4'.out HO4.out
             go_simp
             refine (RoundIn.any' hR).mono ?_
             clear hR hy
             rintro e W5 (⟨rfl, hw5⟩ | ⟨rfl, hw5⟩)
             ·have HW5 := hide (show Went J (fun k => v4.ownBlock = some k) (vs ++ [v4]) N w4 W5 from hw5)
              clear hw5
              refine hK _ _ ?_
              clear hK K
              try simp only [Act.put, qA, qB, qC]
              refine wpAnyIn_ready (rs := [4]) (by kernel_rfl) (by simp) ?_
              refine AllReadyIn.cons (o := ⟨some 21, Op.unOp UnOp.not 4 (Operand.tmp 20), 4, _, _, none⟩) rfl (fun K hK => ?_) ?_
              ·go_simp
               refine hK _ _ ?_
               clear hK K
               try simp only [Act.put, qA, qB, qC]
               refine wpAnyIn_done (by kernel_rfl) ?_ _
               have hs4' := HB4'.out.size
               have hbc := Chg.of_below HB4'.out N
               obtain ⟨N5, hJ5, hC5, hN5⟩ := HW5.out
               have hcy := hC5.cell hyb4' H4.out
               gi_wp2
               exact ⟨N5, ⟨vs ++ [v4], by simp [H1.out], hJ5, hcy, fun h => by
                rcases hN5 _ h with h | h | h
                ·exact H4.out h
                ·omega
                ·have := (HO4.out.lt (by simp [recL, front]) _ h).1; omega, fun k hk => by
                rcases hN5 k hk with h | h | h
                ·exact (H5.out k h).imp id (fun h => by omega)
                ·exact .inr (by omega)
                ·exact .inr (by have := (HO4.out.lt (by simp [recL, front]) _ h).1; omega)⟩, hbc.then hC5 (fun k h => .inl h), fun k hk => by
                rcases hN5 k hk with h | h | h
                ·exact .inl h
                ·exact .inr (.inl (by omega))
                ·exact .inr (.inl (by have := (HO4.out.lt (by simp [recL, front]) _ h).1; omega))⟩
              exact AllReadyIn.nil
             ·have HW5 := hide (show Went Jx (fun k => v4.ownBlock = some k) (vs ++ [v4]) N w4 W5 from hw5)
              clear hw5
              refine hK _ _ ?_
              clear hK K
              try simp only [Act.put, qA, qB, qC]
              refine wpAnyIn_ready (rs := [4]) (by kernel_rfl) (by simp) ?_
              refine AllReadyIn.cons (o := ⟨some 21, Op.unOp UnOp.not 4 (Operand.tmp 20), 4, _, _, none⟩) rfl (fun K hK => ?_) ?_
              ·go_simp
               refine hK _ _ ?_
               clear hK K
               try simp only [Act.put, qA, qB, qC]
               refine wpAnyIn_done (by kernel_rfl) ?_ _
               have hs4' := HB4'.out.size
               have hbc := Chg.of_below HB4'.out N
               have HT : Hid (Went Jx (fun k => v4.ownBlock = some k) (vs ++ [v4]) N w4 W5) := HW5
               obtain ⟨N5, hJ5, hC5, hN5⟩ := HT.out
               gi_wp2
               exact ⟨N5, ⟨rfl, vs ++ [v4], hJ5, fun k hk => by
                rcases hN5 k hk with h | h | h
                ·exact (H5.out k h).imp id (fun h => by omega)
                ·exact .inr (by omega)
                ·exact .inr (by have := (HO4.out.lt (by simp [recL, front]) _ h).1; omega)⟩, hbc.then hC5 (fun k h => .inl h), fun k hk => by
                rcases hN5 k hk with h | h | h
                ·exact .inl h
                ·exact .inr (.inl (by omega))
                ·exact .inr (.inl (by have := (HO4.out.lt (by simp [recL, front]) _ h).1; omega))⟩
              exact AllReadyIn.nil
            exact AllReadyIn.nil
           exact AllReadyIn.nil
          refine AllReadyIn.cons (o := ⟨some 19, Op.call { callee := Callee.value (Operand.func 121), args := #[Operand.tmp 18], argTypes := #[40] }, 40, _, _, none⟩) rfl (fun K hK => ?_) ?_
          ·go_simp
           refine ⟨trivial, ?_⟩
           refine CallsIn.mono (CallsIn.inRound _ (callsIn_wide.2 (recordV_any (HBYX.out.drewN 1) (Nat.le_trans hyl (by omega))))) ?_
           rintro e w4 ⟨v4, rfl, ho4, hb4⟩
           have hyb4' : w4.cell? ⟨W1.heap.size, 0, none⟩ = some (.func (.yield l) #[] #[]) := (hb4.cell hsW1).trans h3
           have HB4' : Hid (Below W.heap.size W w4) := hide ((below_drewN (Below.refl W.heap.size W) 1).trans hb4)
           have HO4 : Hid (Own W.heap.size w4 v4 (recL y)) := hide ho4
           clear ho4 hb4
           refine hK _ _ ?_
           clear hK K
           try simp only [Act.put, qA, qB, qC]
           refine wpAnyIn_ready (rs := [0]) (by kernel_rfl) (by simp) ?_
           refine AllReadyIn.cons (o := ⟨some 17, Op.load 168 (Operand.tmp 2), 168, _, _, none⟩) rfl (fun K hK => ?_) ?_
           ·go_simp
            refine hK _ _ ?_
            clear hK K
            try simp only [Act.put, qA, qB, qC]
            refine wpAnyIn_ready (rs := [3]) (by kernel_rfl) (by simp) ?_
            refine AllReadyIn.cons (o := ⟨some 20, Op.call { callee := Callee.value (Operand.tmp 17), args := #[Operand.tmp 19], argTypes := #[40] }, 4, _, _, none⟩) rfl (fun K hK => ?_) ?_
            ·obtain ⟨fn, tmps, assign, body, hy, hR⟩ := HYI.out v4 w4 HB4'.out HO4.out
             go_simp
             refine (RoundIn.any' hR).mono ?_
             clear hR hy
             rintro e W5 (⟨rfl, hw5⟩ | ⟨rfl, hw5⟩)
             ·have HW5 := hide (show Went J (fun k => v4.ownBlock = some k) (vs ++ [v4]) N w4 W5 from hw5)
              clear hw5
              refine hK _ _ ?_
              clear hK K
              try simp only [Act.put, qA, qB, qC]
              refine wpAnyIn_ready (rs := [4]) (by kernel_rfl) (by simp) ?_
              refine AllReadyIn.cons (o := ⟨some 21, Op.unOp UnOp.not 4 (Operand.tmp 20), 4, _, _, none⟩) rfl (fun K hK => ?_) ?_
              ·go_simp
               refine hK _ _ ?_
               clear hK K
               try simp only [Act.put, qA, qB, qC]
               refine wpAnyIn_done (by kernel_rfl) ?_ _
               have hs4' := HB4'.out.size
               have hbc := Chg.of_below HB4'.out N
               obtain ⟨N5, hJ5, hC5, hN5⟩ := HW5.out
               have hcy := hC5.cell hyb4' H4.out
               gi_wp2
               exact ⟨N5, ⟨vs ++ [v4], by simp [H1.out], hJ5, hcy, fun h => by
                rcases hN5 _ h with h | h | h
                ·exact H4.out h
                ·omega
                ·have := (HO4.out.lt (by simp [recL, front]) _ h).1; omega, fun k hk => by
                rcases hN5 k hk with h | h | h
                ·exact (H5.out k h).imp id (fun h => by omega)
                ·exact .inr (by omega)
                ·exact .inr (by have := (HO4.out.lt (by simp [recL, front]) _ h).1; omega)⟩, hbc.then hC5 (fun k h => .inl h), fun k hk => by
                rcases hN5 k hk with h | h | h
                ·exact .inl h
                ·exact .inr (.inl (by omega))
                ·exact .inr (.inl (by have := (HO4.out.lt (by simp [recL, front]) _ h).1; omega))⟩
              exact AllReadyIn.nil
             ·have HW5 := hide (show Went Jx (fun k => v4.ownBlock = some k) (vs ++ [v4]) N w4 W5 from hw5)
              clear hw5
              refine hK _ _ ?_
              clear hK K
              try simp only [Act.put, qA, qB, qC]
              refine wpAnyIn_ready (rs := [4]) (by kernel_rfl) (by simp) ?_
              refine AllReadyIn.cons (o := ⟨some 21, Op.unOp UnOp.not 4 (Operand.tmp 20), 4, _, _, none⟩) rfl (fun K hK => ?_) ?_
              ·go_simp
               refine hK _ _ ?_
               clear hK K
               try simp only [Act.put, qA, qB, qC]
               refine wpAnyIn_done (by kernel_rfl) ?_ _
               have hs4' := HB4'.out.size
               have hbc := Chg.of_below HB4'.out N
               have HT : Hid (Went Jx (fun k => v4.ownBlock = some k) (vs ++ [v4]) N w4 W5) := HW5
               obtain ⟨N5, hJ5, hC5, hN5⟩ := HT.out
               gi_wp2
               exact ⟨N5, ⟨rfl, vs ++ [v4], hJ5, fun k hk => by
                rcases hN5 k hk with h | h | h
                ·exact (H5.out k h).imp id (fun h => by omega)
                ·exact .inr (by omega)
                ·exact .inr (by have := (HO4.out.lt (by simp [recL, front]) _ h).1; omega)⟩, hbc.then hC5 (fun k h => .inl h), fun k hk => by
                rcases hN5 k hk with h | h | h
                ·exact .inl h
                ·exact .inr (.inl (by omega))
                ·exact .inr (.inl (by have := (HO4.out.lt (by simp [recL, front]) _ h).1; omega))⟩
              exact AllReadyIn.nil
            exact AllReadyIn.nil
           exact AllReadyIn.nil
          exact AllReadyIn.nil
         exact AllReadyIn.nil
       exact AllReadyIn.nil
      ·have HW3 := hide (show Went Jx (fun k => v2.ownBlock = some k) [v2] M w2 W3 from hw3)
       clear hw3
       refine hK _ _ ?_
       clear hK K
       try simp only [Act.put, qA, qB, qC]
       refine wpAnyIn_ready (rs := [5]) (by kernel_rfl) (by simp) ?_
       refine AllReadyIn.cons (o := ⟨some 9, Op.unOp UnOp.not 4 (Operand.tmp 8), 4, _, _, none⟩) rfl (fun K hK => ?_) ?_
       ·go_simp
        refine hK _ _ ?_
        clear hK K
        try simp only [Act.put, qA, qB, qC]
        refine wpAnyIn_done (by kernel_rfl) ?_ _
        have HT : Hid (Went Jx (fun k => v2.ownBlock = some k) [v2] M w2 W3) := HW3
        obtain ⟨M3, hJ3, hC3, _⟩ := HT.out
        have hs3 := hC3.size
        have hs2 := HB2.out.size
        gi_wp2
        exact ⟨_, results_none rfl _ _ _, ⟨_, rfl⟩, by omega, .inr ⟨_, _, hJ3⟩⟩
       exact AllReadyIn.nil
     exact AllReadyIn.nil
    exact AllReadyIn.nil
   exact AllReadyIn.nil
  refine AllReadyIn.cons (o := ⟨some 6, Op.call { callee := Callee.value (Operand.func 122), args := #[Operand.tmp 5], argTypes := #[150] }, 40, _, _, none⟩) rfl (fun K hK => ?_) ?_
  ·go_simp
   refine ⟨trivial, ?_⟩
   refine CallsIn.mono (callsIn_wide.2 (head_any HY0.out.st (by omega))) ?_
   rintro e w1 ⟨v1, rfl, ho1, hb1⟩
   have hyb1 : w1.cell? ⟨W1.heap.size, 0, none⟩ = some (.func (.yield l) #[] #[]) := (hb1.cell (lt_of_cell hyb0)).trans hyb0
   have HO1 := hide ho1
   have HB1 := hide hb1
   clear ho1 hb1
   refine hK _ _ ?_
   clear hK K
   try simp only [Act.put, qA, qB, qC]
   refine wpAnyIn_ready (rs := [0, 3]) (by kernel_rfl) (by simp) ?_
   refine AllReadyIn.cons (o := ⟨some 4, Op.load 168 (Operand.tmp 2), 168, _, _, none⟩) rfl (fun K hK => ?_) ?_
   ·go_simp
    refine hK _ _ ?_
    clear hK K
    try simp only [Act.put, qA, qB, qC]
    refine wpAnyIn_ready (rs := [3]) (by kernel_rfl) (by simp) ?_
    refine AllReadyIn.cons (o := ⟨some 7, Op.call { callee := Callee.value (Operand.func 121), args := #[Operand.tmp 6], argTypes := #[40] }, 40, _, _, none⟩) rfl (fun K hK => ?_) ?_
    ·go_simp
     refine ⟨trivial, ?_⟩
     refine CallsIn.mono (callsIn_wide.2 (recordV_any HO1.out.by_ HHL.out)) ?_
     rintro e w2 ⟨v2, rfl, ho2, hb2⟩
     have hyb2 : w2.cell? ⟨W1.heap.size, 0, none⟩ = some (.func (.yield l) #[] #[]) := (HB1.out.trans (hb2.mono HB1.out.size)).cell (lt_of_cell hyb0) |>.trans hyb0
     have HO2 := hide ho2
     have HB2 := hide (HB1.out.trans (hb2.mono HB1.out.size))
     have HBS := hide (show w1.heap.size ≤ w2.heap.size from hb2.size)
     have HBS1 := hide HB1.out.size
     clear ho2 hb2
     refine hK _ _ ?_
     clear hK K
     try simp only [Act.put, qA, qB, qC]
     refine wpAnyIn_ready (rs := [4]) (by kernel_rfl) (by simp) ?_
     refine AllReadyIn.cons (o := ⟨some 8, Op.call { callee := Callee.value (Operand.tmp 4), args := #[Operand.tmp 7], argTypes := #[40] }, 4, _, _, none⟩) rfl (fun K hK => ?_) ?_
     ·obtain ⟨fn, tmps, assign, body, hy, hR⟩ := HYL.out v2 w2 HB2.out (by have := HBS1.out; exact HO2.out.mono this)
      go_simp
      refine (RoundIn.any hR).mono ?_
      clear hR hy
      rintro e W3 (⟨rfl, hw3⟩ | ⟨rfl, hw3⟩)
      ·have HW3 := hide (show Went J (fun k => v2.ownBlock = some k) [v2] M w2 W3 from hw3)
       clear hw3
       refine hK _ _ ?_
       clear hK K
       try simp only [Act.put, qA, qB, qC]
       refine wpAnyIn_ready (rs := [5]) (by kernel_rfl) (by simp) ?_
       refine AllReadyIn.cons (o := ⟨some 9, Op.unOp UnOp.not 4 (Operand.tmp 8), 4, _, _, none⟩) rfl (fun K hK => ?_) ?_
       ·go_simp
        refine hK _ _ ?_
        clear hK K
        try simp only [Act.put, qA, qB, qC]
        refine wpAnyIn_done (by kernel_rfl) ?_ _
        obtain ⟨M3, hJ3, hC3, hM3⟩ := HW3.out
        have hs3 := hC3.size
        have hs2 := HB2.out.size
        have hMin := HJ.out.in_ _ _ _ H0.out
        have hS3 := (HY0.out.chg (Chg.of_below HB2.out (fun _ => False)) (fun _ h => h.elim)).chg hC3 (fun k hk => (hMin k hk).1)
        have hyb3 : W3.cell? ⟨W1.heap.size, 0, none⟩ = some (.func (.yield l) #[] #[]) := hC3.cell hyb2 (fun h => by have := (hMin _ h).2; dsimp only at this; omega)
        have hnb3 : ¬ M3 W1.heap.size := fun h => by
         rcases hM3 _ h with h | h | h
         ·have := (hMin _ h).2
          omega
         ·omega
         ·have := (HO2.out.lt (by simp [recL, front]) _ h).1
          have := HBS1.out
          omega
        have HM3L := hide (fun k hk => (HJ.out.in_ _ _ _ hJ3 k hk).2)
        have HM3I := hide (fun k hk => (HJ.out.in_ _ _ _ hJ3 k hk).1)
        have hbox3 := hS3.box
        have hc3 := hS3.st.c3
        have HS3 := hide hS3
        have HJ3 := hide hJ3
        have HB3 := hide (show W1.heap.size + 1 ≤ W3.heap.size by omega)
        clear hS3 hJ3 hC3 hM3 hMin hyb2 hyb0 hbox0 hs3 hs2
        gi_wp2
        refine ⟨trivial, ?_⟩
        refine CallsIn.mono (callsIn_wide.2 chunk_any) ?_
        rintro e w' ⟨rfl, rfl⟩
        gi_wp2
        obtain ⟨W4, hW4⟩ : ∃ W4, (W3.alloc (.cells #[.slice pd nd cd] 40)).alloc (.cells #[.int .i64 512] 3) = W4 := ⟨_, rfl⟩
        have hk1 : W4.cell? ⟨W3.heap.size, 0, none⟩ = some (.slice pd nd cd) := by rw [← hW4]; simp
        have hk2 : W4.cell? ⟨W3.heap.size + 1, 0, none⟩ = some (.int .i64 512) := by
         have h1 : (W3.alloc (.cells #[.slice pd nd cd] 40)).heap.size = W3.heap.size + 1 := by simp
         rw [← hW4, ← h1]
         simp
        have hs4 : W4.heap.size = W3.heap.size + 2 := by rw [← hW4]; simp
        have hc4 : ∀ S, Chg W3 W4 S := fun S => by rw [← hW4]; exact (Chg.of_alloc _ _ S).then (Chg.of_alloc _ _ S) (fun _ h => .inl h)
        have hyb4 : W4.cell? ⟨W1.heap.size, 0, none⟩ = some (.func (.yield l) #[] #[]) := (hc4 (fun _ => False)).cell hyb3 (fun h => h)
        rw [hW4]
        have HB4 := HB3.out
        have HS4 := hide (HS3.out.chg (hc4 (fun _ => False)) (fun _ h => h.elim))
        have HJ4 := hide (HJ.out.chg _ _ _ _ HJ3.out (hc4 _))
        have HK := hide (And.intro hk1 hk2)
        clear hW4 hk1 hk2 hyb3 hbox3 hc3
        refine range_any (gf := 139) (lb := #[.pointer (some ⟨W3.heap.size, 0, none⟩), .pointer (some ⟨W3.heap.size + 1, 0, none⟩)]) rfl (enters_of Tryz.func139 (by kernel_rfl) rfl) (encs := fun x : Value => #[x]) (Y := ckY s.da) (Dn := fun pre => pre.length = s.pieces.length) (fun _ => rfl) M3 (fun k hk => by have := HM3L.out k hk; omega)
         (fun W5 hc5 hs5 => chunk_gives (hc5.cell HK.out.1 (fun h => h)) (hc5.cell HK.out.2 (fun h => h)) (By.below' HS4.out.st.by_ hc5) hds (fun h => by
           rcases h with h | h
           ·have := HM3L.out _ h; omega
           ·omega) (fun h => by
           rcases h with h | h
           ·have := HM3L.out _ h; omega
           ·omega) (fun a ha h0 => by
           subst ha
           obtain ⟨m1, m3⟩ := (HS4.out.m4.resolve_left (fun e => by have := HND.out; rw [e] at this; simp at this; omega)) a.block (by simp [Value.ownBlock])
           refine ⟨fun h => ?_, by omega⟩
           rcases h with h | h
           ·rcases HM3I.out _ h with h | h
            ·exact m1 h
            ·omega
           ·omega))
         (fun pre x N N' W o hlp hNN hy => by
          obtain ⟨r, hr⟩ := hlp
          obtain ⟨y, h1, h2⟩ := hy
          exact ⟨y, h1, h2.loop hr o⟩)
         (fun _ _ _ _ _ _ h => h.elim)
         (rcI J W1.heap.size l M3 W4.heap.size) (rcX Jx M3 W4.heap.size)
         ⟨?i1, ?i2⟩ (fun c => ⟨?x1, ?x2⟩) ⟨[v2], rfl, HJ4.out, hyb4, hnb3, fun k h => .inl h⟩
         (fun x => { tmps := #[.func (.yield l) #[] #[], .pointer (some ⟨bs, 0, none⟩), .pointer (some ⟨W1.heap.size, 0, none⟩), x, .func (.yield l) #[] #[], .pointer (some ⟨b, 0, none⟩), v1, v2, .bool true, .bool false, .pointer (some ⟨b, 0, none⟩), .pointer (some ⟨b, 0, none⟩), .pointer (some ⟨b, 0, none⟩), .pointer (some ⟨b, 3, none⟩), .slice pd nd cd, .func (.func 139) #[] #[.pointer (some ⟨W3.heap.size, 0, none⟩), .pointer (some ⟨W3.heap.size + 1, 0, none⟩)], x, undef, undef, undef, undef, undef], defers := [] })
         ?assign ?body ?done ?stop
        case i1 =>
         rintro pre N W ⟨vs, h1, h2, h3, h4, h5⟩ k hk
         exact ⟨h5 k hk, (HJ.out.in_ _ _ _ h2 k hk).2⟩
        case i2 =>
         rintro pre N W W' ⟨vs, h1, h2, h3, h4, h5⟩ hc
         exact ⟨vs, h1, HJ.out.chg _ _ _ _ h2 (hc.mono' fun k h => ⟨by omega, h.2⟩), hc.cell h3 (fun h => by dsimp only at h; omega), h4, h5⟩
        case x1 =>
         rintro pre N W ⟨rfl, vs, h2, h5⟩ k hk
         exact ⟨h5 k hk, (HJX.out.in_ _ _ _ h2 k hk).2⟩
        case x2 =>
         rintro pre N W W' ⟨rfl, vs, h2, h5⟩ hc
         exact ⟨rfl, vs, HJX.out.chg _ _ _ _ h2 (hc.mono' fun k h => ⟨by omega, h.2⟩), h5⟩
        case assign =>
         intro x W K hK
         gi_wp2
         exact hK
        case done =>
         rintro pre N W hD ⟨vs, h1, h2, h3, h4, h5⟩ hnD hsW hDef
         have hj := HJ.out.chg _ _ _ (W.putObj W4.heap.size (.deferred none)) h2 ((Chg.putObj _).mono' fun k h => by subst h; exact ⟨by omega, hnD⟩)
         have hsz : W1.heap.size ≤ (W.putObj W4.heap.size (.deferred none)).heap.size := by simp; omega
         gi_wp2
         refine ⟨by simp, .inl ⟨_, _, rfl, run_takeDeferred hDef, ?_⟩⟩
         exact ⟨_, results_none rfl _ _ _, ⟨_, rfl⟩, hsz, .inl ⟨vs, N, by rw [h1, hD]; simp [Sn.recs], hj⟩⟩
        case stop =>
         rintro c pre N W ⟨rfl, vs, h2, h5⟩ hnD hsW hDef
         have hj := HJX.out.chg _ _ _ (W.putObj W4.heap.size (.deferred none)) h2 ((Chg.putObj _).mono' fun k h => by subst h; exact ⟨by omega, hnD⟩)
         have hsz : W1.heap.size ≤ (W.putObj W4.heap.size (.deferred none)).heap.size := by simp; omega
         gi_wp2
         refine ⟨by simp, .inl ⟨_, _, rfl, run_takeDeferred hDef, ?_⟩⟩
         exact ⟨_, results_none rfl _ _ _, ⟨_, rfl⟩, hsz, .inr ⟨vs, N, hj⟩⟩
        case body =>
         rintro pre x N W ⟨vs, h1, h2, h3, h4, h5⟩ ⟨y, hy1, hy2⟩ hsW
         have hyl := piece_len (Nat.le_refl _) hy1
         have hrecs : s.recs[vs.length]? = some (recL y) := by
          rw [h1]
          show (recL s.head :: s.pieces.map recL)[pre.length + 1]? = _
          rw [List.getElem?_cons_succ, List.getElem?_map, show s.pieces[pre.length]? = some y from hy1]
          rfl
         have HNI := hide (HJ.out.in_ _ _ _ h2)
         have HYI : Hid (∀ (v4 : Value) (w4 : World), Below W.heap.size W w4 → Own W.heap.size w4 v4 (recL y) → YieldAt Fence.wide 3 Tryz.prog l #[v4] w4 fun e W' => (e = .returned (.bool true) ∧ Went J (fun k => v4.ownBlock = some k) (vs ++ [v4]) N w4 W') ∨ (e = .returned (.bool false) ∧ Went Jx (fun k => v4.ownBlock = some k) (vs ++ [v4]) N w4 W')) := hide (by
          intro v4 w4 hb4 ho4
          have hsz := hb4.size
          refine HY.out vs v4 N w4 (HJ.out.chg _ _ _ _ h2 (Chg.of_below hb4 _)) ⟨recL y, hrecs, ho4.mono (by omega), fun k hk hm => ?_⟩ (by omega)
          have e1 := (HNI.out k hm).2
          have e2 := (ho4.lt (by simp [recL, front]) k hk).1
          omega)
         have H1 := hide h1
         have H4 := hide h4
         have H5 := hide h5
         have HBYX := hide hy2
         clear h1 h4 h5 h2 hy1 hy2 hrecs
         have hsW1 : W1.heap.size < W.heap.size := by omega
         gi_wp2
         refine wpIn_region_any' (by kernel_rfl) ?_
         refine wpAnyIn_ready (rs := [0, 1]) (by kernel_rfl) (by simp) ?_
         refine AllReadyIn.cons (o := ⟨some 17, Op.load 168 (Operand.tmp 2), 168, _, _, none⟩) rfl (fun K hK => ?_) ?_
         ·go_simp
          refine hK _ _ ?_
          clear hK K
          try simp only [Act.put, qA, qB, qC]
          refine wpAnyIn_ready (rs := [1]) (by kernel_rfl) (by simp) ?_
          refine AllReadyIn.cons (o := ⟨some 18, Op.move (Operand.tmp 3), 40, _, _, none⟩) rfl (fun K hK => ?_) ?_
          ·go_simp
           refine hK _ _ ?_
           clear hK K
           try simp only [Act.put, qA, qB, qC]
           refine wpAnyIn_ready (rs := [2]) (by kernel_rfl) (by simp) ?_
           refine AllReadyIn.cons (o := ⟨some 19, Op.call { callee := Callee.value (Operand.func 121), args := #[Operand.tmp 18], argTypes := #[40] }, 40, _, _, none⟩) rfl (fun K hK => ?_) ?_
           ·go_simp
            refine ⟨trivial, ?_⟩
            refine CallsIn.mono (CallsIn.inRound _ (callsIn_wide.2 (recordV_any (HBYX.out.drewN 1) (Nat.le_trans hyl (by omega))))) ?_
            rintro e w4 ⟨v4, rfl, ho4, hb4⟩
            have hyb4' : w4.cell? ⟨W1.heap.size, 0, none⟩ = some (.func (.yield l) #[] #[]) := (hb4.cell hsW1).trans h3
            have HB4' : Hid (Below W.heap.size W w4) := hide ((below_drewN (Below.refl W.heap.size W) 1).trans hb4)
            have HO4 : Hid (Own W.heap.size w4 v4 (recL y)) := hide ho4
            clear ho4 hb4
            refine hK _ _ ?_
            clear hK K
            try simp only [Act.put, qA, qB, qC]
            refine wpAnyIn_ready (rs := [3]) (by kernel_rfl) (by simp) ?_
            refine AllReadyIn.cons (o := ⟨some 20, Op.call { callee := Callee.value (Operand.tmp 17), args := #[Operand.tmp 19], argTypes := #[40] }, 4, _, _, none⟩) rfl (fun K hK => ?_) ?_
            ·obtain ⟨fn, tmps, assign, body, hy, hR⟩ := HYI.out v4 w4 HB4'.out HO4.out
             go_simp
             refine (RoundIn.any' hR).mono ?_
             clear hR hy
             rintro e W5 (⟨rfl, hw5⟩ | ⟨rfl, hw5⟩)
             ·have HW5 := hide (show Went J (fun k => v4.ownBlock = some k) (vs ++ [v4]) N w4 W5 from hw5)
              clear hw5
              refine hK _ _ ?_
              clear hK K
              try simp only [Act.put, qA, qB, qC]
              refine wpAnyIn_ready (rs := [4]) (by kernel_rfl) (by simp) ?_
              refine AllReadyIn.cons (o := ⟨some 21, Op.unOp UnOp.not 4 (Operand.tmp 20), 4, _, _, none⟩) rfl (fun K hK => ?_) ?_
              ·go_simp
               refine hK _ _ ?_
               clear hK K
               try simp only [Act.put, qA, qB, qC]
               refine wpAnyIn_done (by kernel_rfl) ?_ _
               have hs4' := HB4'.out.size
               have hbc := Chg.of_below HB4'.out N
               obtain ⟨N5, hJ5, hC5, hN5⟩ := HW5.out
               have hcy := hC5.cell hyb4' H4.out
               gi_wp2
               exact ⟨N5, ⟨vs ++ [v4], by simp [H1.out], hJ5, hcy, fun h => by
                rcases hN5 _ h with h | h | h
                ·exact H4.out h
                ·omega
                ·have := (HO4.out.lt (by simp [recL, front]) _ h).1; omega, fun k hk => by
                rcases hN5 k hk with h | h | h
                ·exact (H5.out k h).imp id (fun h => by omega)
                ·exact .inr (by omega)
                ·exact .inr (by have := (HO4.out.lt (by simp [recL, front]) _ h).1; omega)⟩, hbc.then hC5 (fun k h => .inl h), fun k hk => by
                rcases hN5 k hk with h | h | h
                ·exact .inl h
                ·exact .inr (.inl (by omega))
                ·exact .inr (.inl (by have := (HO4.out.lt (by simp [recL, front]) _ h).1; omega))⟩
              exact AllReadyIn.nil
             ·have HW5 := hide (show Went Jx (fun k => v4.ownBlock = some k) (vs ++ [v4]) N w4 W5 from hw5)
              clear hw5
              refine hK _ _ ?_
              clear hK K
              try simp only [Act.put, qA, qB, qC]
              refine wpAnyIn_ready (rs := [4]) (by kernel_rfl) (by simp) ?_
              refine AllReadyIn.cons (o := ⟨some 21, Op.unOp UnOp.not 4 (Operand.tmp 20), 4, _, _, none⟩) rfl (fun K hK => ?_) ?_
              ·go_simp
               refine hK _ _ ?_
               clear hK K
               try simp only [Act.put, qA, qB, qC]
               refine wpAnyIn_done (by kernel_rfl) ?_ _
               have hs4' := HB4'.out.size
               have hbc := Chg.of_below HB4'.out N
               have HT : Hid (Went Jx (fun k => v4.ownBlock = some k) (vs ++ [v4]) N w4 W5) := HW5
               obtain ⟨N5, hJ5, hC5, hN5⟩ := HT.out
               gi_wp2
               exact ⟨N5, ⟨rfl, vs ++ [v4], hJ5, fun k hk => by
                rcases hN5 k hk with h | h | h
                ·exact (H5.out k h).imp id (fun h => by omega)
                ·exact .inr (by omega)
                ·exact .inr (by have := (HO4.out.lt (by simp [recL, front]) _ h).1; omega)⟩, hbc.then hC5 (fun k h => .inl h), fun k hk => by
                rcases hN5 k hk with h | h | h
                ·exact .inl h
                ·exact .inr (.inl (by omega))
                ·exact .inr (.inl (by have := (HO4.out.lt (by simp [recL, front]) _ h).1; omega))⟩
              exact AllReadyIn.nil
            exact AllReadyIn.nil
           exact AllReadyIn.nil
          exact AllReadyIn.nil
         refine AllReadyIn.cons (o := ⟨some 18, Op.move (Operand.tmp 3), 40, _, _, none⟩) rfl (fun K hK => ?_) ?_
         ·go_simp
          refine hK _ _ ?_
          clear hK K
          try simp only [Act.put, qA, qB, qC]
          refine wpAnyIn_ready (rs := [0, 2]) (by kernel_rfl) (by simp) ?_
          refine AllReadyIn.cons (o := ⟨some 17, Op.load 168 (Operand.tmp 2), 168, _, _, none⟩) rfl (fun K hK => ?_) ?_
          ·go_simp
           refine hK _ _ ?_
           clear hK K
           try simp only [Act.put, qA, qB, qC]
           refine wpAnyIn_ready (rs := [2]) (by kernel_rfl) (by simp) ?_
           refine AllReadyIn.cons (o := ⟨some 19, Op.call { callee := Callee.value (Operand.func 121), args := #[Operand.tmp 18], argTypes := #[40] }, 40, _, _, none⟩) rfl (fun K hK => ?_) ?_
           ·go_simp
            refine ⟨trivial, ?_⟩
            refine CallsIn.mono (CallsIn.inRound _ (callsIn_wide.2 (recordV_any (HBYX.out.drewN 1) (Nat.le_trans hyl (by omega))))) ?_
            rintro e w4 ⟨v4, rfl, ho4, hb4⟩
            have hyb4' : w4.cell? ⟨W1.heap.size, 0, none⟩ = some (.func (.yield l) #[] #[]) := (hb4.cell hsW1).trans h3
            have HB4' : Hid (Below W.heap.size W w4) := hide ((below_drewN (Below.refl W.heap.size W) 1).trans hb4)
            have HO4 : Hid (Own W.heap.size w4 v4 (recL y)) := hide ho4
            clear ho4 hb4
            refine hK _ _ ?_
            clear hK K
            try simp only [Act.put, qA, qB, qC]
            refine wpAnyIn_ready (rs := [3]) (by kernel_rfl) (by simp) ?_
            refine AllReadyIn.cons (o := ⟨some 20, Op.call { callee := Callee.value (Operand.tmp 17), args := #[Operand.tmp 19], argTypes := #[40] }, 4, _, _, none⟩) rfl (fun K hK => ?_) ?_
            ·obtain ⟨fn, tmps, assign, body, hy, hR⟩ := HYI.out v4 w4 HB4'.out HO4.out
             go_simp
             refine (RoundIn.any' hR).mono ?_
             clear hR hy
             rintro e W5 (⟨rfl, hw5⟩ | ⟨rfl, hw5⟩)
             ·have HW5 := hide (show Went J (fun k => v4.ownBlock = some k) (vs ++ [v4]) N w4 W5 from hw5)
              clear hw5
              refine hK _ _ ?_
              clear hK K
              try simp only [Act.put, qA, qB, qC]
              refine wpAnyIn_ready (rs := [4]) (by kernel_rfl) (by simp) ?_
              refine AllReadyIn.cons (o := ⟨some 21, Op.unOp UnOp.not 4 (Operand.tmp 20), 4, _, _, none⟩) rfl (fun K hK => ?_) ?_
              ·go_simp
               refine hK _ _ ?_
               clear hK K
               try simp only [Act.put, qA, qB, qC]
               refine wpAnyIn_done (by kernel_rfl) ?_ _
               have hs4' := HB4'.out.size
               have hbc := Chg.of_below HB4'.out N
               obtain ⟨N5, hJ5, hC5, hN5⟩ := HW5.out
               have hcy := hC5.cell hyb4' H4.out
               gi_wp2
               exact ⟨N5, ⟨vs ++ [v4], by simp [H1.out], hJ5, hcy, fun h => by
                rcases hN5 _ h with h | h | h
                ·exact H4.out h
                ·omega
                ·have := (HO4.out.lt (by simp [recL, front]) _ h).1; omega, fun k hk => by
                rcases hN5 k hk with h | h | h
                ·exact (H5.out k h).imp id (fun h => by omega)
                ·exact .inr (by omega)
                ·exact .inr (by have := (HO4.out.lt (by simp [recL, front]) _ h).1; omega)⟩, hbc.then hC5 (fun k h => .inl h), fun k hk => by
                rcases hN5 k hk with h | h | h
                ·exact .inl h
                ·exact .inr (.inl (by omega))
                ·exact .inr (.inl (by have := (HO4.out.lt (by simp [recL, front]) _ h).1; omega))⟩
              exact AllReadyIn.nil
             ·have HW5 := hide (show Went Jx (fun k => v4.ownBlock = some k) (vs ++ [v4]) N w4 W5 from hw5)
              clear hw5
              refine hK _ _ ?_
              clear hK K
              try simp only [Act.put, qA, qB, qC]
              refine wpAnyIn_ready (rs := [4]) (by kernel_rfl) (by simp) ?_
              refine AllReadyIn.cons (o := ⟨some 21, Op.unOp UnOp.not 4 (Operand.tmp 20), 4, _, _, none⟩) rfl (fun K hK => ?_) ?_
              ·go_simp
               refine hK _ _ ?_
               clear hK K
               try simp only [Act.put, qA, qB, qC]
               refine wpAnyIn_done (by kernel_rfl) ?_ _
               have hs4' := HB4'.out.size
               have hbc := Chg.of_below HB4'.out N
               have HT : Hid (Went Jx (fun k => v4.ownBlock = some k) (vs ++ [v4]) N w4 W5) := HW5
               obtain ⟨N5, hJ5, hC5, hN5⟩ := HT.out
               gi_wp2
               exact ⟨N5, ⟨rfl, vs ++ [v4], hJ5, fun k hk => by
                rcases hN5 k hk with h | h | h
                ·exact (H5.out k h).imp id (fun h => by omega)
                ·exact .inr (by omega)
                ·exact .inr (by have := (HO4.out.lt (by simp [recL, front]) _ h).1; omega)⟩, hbc.then hC5 (fun k h => .inl h), fun k hk => by
                rcases hN5 k hk with h | h | h
                ·exact .inl h
                ·exact .inr (.inl (by omega))
                ·exact .inr (.inl (by have := (HO4.out.lt (by simp [recL, front]) _ h).1; omega))⟩
              exact AllReadyIn.nil
            exact AllReadyIn.nil
           exact AllReadyIn.nil
          refine AllReadyIn.cons (o := ⟨some 19, Op.call { callee := Callee.value (Operand.func 121), args := #[Operand.tmp 18], argTypes := #[40] }, 40, _, _, none⟩) rfl (fun K hK => ?_) ?_
          ·go_simp
           refine ⟨trivial, ?_⟩
           refine CallsIn.mono (CallsIn.inRound _ (callsIn_wide.2 (recordV_any (HBYX.out.drewN 1) (Nat.le_trans hyl (by omega))))) ?_
           rintro e w4 ⟨v4, rfl, ho4, hb4⟩
           have hyb4' : w4.cell? ⟨W1.heap.size, 0, none⟩ = some (.func (.yield l) #[] #[]) := (hb4.cell hsW1).trans h3
           have HB4' : Hid (Below W.heap.size W w4) := hide ((below_drewN (Below.refl W.heap.size W) 1).trans hb4)
           have HO4 : Hid (Own W.heap.size w4 v4 (recL y)) := hide ho4
           clear ho4 hb4
           refine hK _ _ ?_
           clear hK K
           try simp only [Act.put, qA, qB, qC]
           refine wpAnyIn_ready (rs := [0]) (by kernel_rfl) (by simp) ?_
           refine AllReadyIn.cons (o := ⟨some 17, Op.load 168 (Operand.tmp 2), 168, _, _, none⟩) rfl (fun K hK => ?_) ?_
           ·go_simp
            refine hK _ _ ?_
            clear hK K
            try simp only [Act.put, qA, qB, qC]
            refine wpAnyIn_ready (rs := [3]) (by kernel_rfl) (by simp) ?_
            refine AllReadyIn.cons (o := ⟨some 20, Op.call { callee := Callee.value (Operand.tmp 17), args := #[Operand.tmp 19], argTypes := #[40] }, 4, _, _, none⟩) rfl (fun K hK => ?_) ?_
            ·obtain ⟨fn, tmps, assign, body, hy, hR⟩ := HYI.out v4 w4 HB4'.out HO4.out
             go_simp
             refine (RoundIn.any' hR).mono ?_
             clear hR hy
             rintro e W5 (⟨rfl, hw5⟩ | ⟨rfl, hw5⟩)
             ·have HW5 := hide (show Went J (fun k => v4.ownBlock = some k) (vs ++ [v4]) N w4 W5 from hw5)
              clear hw5
              refine hK _ _ ?_
              clear hK K
              try simp only [Act.put, qA, qB, qC]
              refine wpAnyIn_ready (rs := [4]) (by kernel_rfl) (by simp) ?_
              refine AllReadyIn.cons (o := ⟨some 21, Op.unOp UnOp.not 4 (Operand.tmp 20), 4, _, _, none⟩) rfl (fun K hK => ?_) ?_
              ·go_simp
               refine hK _ _ ?_
               clear hK K
               try simp only [Act.put, qA, qB, qC]
               refine wpAnyIn_done (by kernel_rfl) ?_ _
               have hs4' := HB4'.out.size
               have hbc := Chg.of_below HB4'.out N
               obtain ⟨N5, hJ5, hC5, hN5⟩ := HW5.out
               have hcy := hC5.cell hyb4' H4.out
               gi_wp2
               exact ⟨N5, ⟨vs ++ [v4], by simp [H1.out], hJ5, hcy, fun h => by
                rcases hN5 _ h with h | h | h
                ·exact H4.out h
                ·omega
                ·have := (HO4.out.lt (by simp [recL, front]) _ h).1; omega, fun k hk => by
                rcases hN5 k hk with h | h | h
                ·exact (H5.out k h).imp id (fun h => by omega)
                ·exact .inr (by omega)
                ·exact .inr (by have := (HO4.out.lt (by simp [recL, front]) _ h).1; omega)⟩, hbc.then hC5 (fun k h => .inl h), fun k hk => by
                rcases hN5 k hk with h | h | h
                ·exact .inl h
                ·exact .inr (.inl (by omega))
                ·exact .inr (.inl (by have := (HO4.out.lt (by simp [recL, front]) _ h).1; omega))⟩
              exact AllReadyIn.nil
             ·have HW5 := hide (show Went Jx (fun k => v4.ownBlock = some k) (vs ++ [v4]) N w4 W5 from hw5)
              clear hw5
              refine hK _ _ ?_
              clear hK K
              try simp only [Act.put, qA, qB, qC]
              refine wpAnyIn_ready (rs := [4]) (by kernel_rfl) (by simp) ?_
              refine AllReadyIn.cons (o := ⟨some 21, Op.unOp UnOp.not 4 (Operand.tmp 20), 4, _, _, none⟩) rfl (fun K hK => ?_) ?_
              ·go_simp
               refine hK _ _ ?_
               clear hK K
               try simp only [Act.put, qA, qB, qC]
               refine wpAnyIn_done (by kernel_rfl) ?_ _
               have hs4' := HB4'.out.size
               have hbc := Chg.of_below HB4'.out N
               have HT : Hid (Went Jx (fun k => v4.ownBlock = some k) (vs ++ [v4]) N w4 W5) := HW5
               obtain ⟨N5, hJ5, hC5, hN5⟩ := HT.out
               gi_wp2
               exact ⟨N5, ⟨rfl, vs ++ [v4], hJ5, fun k hk => by
                rcases hN5 k hk with h | h | h
                ·exact (H5.out k h).imp id (fun h => by omega)
                ·exact .inr (by omega)
                ·exact .inr (by have := (HO4.out.lt (by simp [recL, front]) _ h).1; omega)⟩, hbc.then hC5 (fun k h => .inl h), fun k hk => by
                rcases hN5 k hk with h | h | h
                ·exact .inl h
                ·exact .inr (.inl (by omega))
                ·exact .inr (.inl (by have := (HO4.out.lt (by simp [recL, front]) _ h).1; omega))⟩
              exact AllReadyIn.nil
            exact AllReadyIn.nil
           exact AllReadyIn.nil
          exact AllReadyIn.nil
         exact AllReadyIn.nil
       exact AllReadyIn.nil
      ·have HW3 := hide (show Went Jx (fun k => v2.ownBlock = some k) [v2] M w2 W3 from hw3)
       clear hw3
       refine hK _ _ ?_
       clear hK K
       try simp only [Act.put, qA, qB, qC]
       refine wpAnyIn_ready (rs := [5]) (by kernel_rfl) (by simp) ?_
       refine AllReadyIn.cons (o := ⟨some 9, Op.unOp UnOp.not 4 (Operand.tmp 8), 4, _, _, none⟩) rfl (fun K hK => ?_) ?_
       ·go_simp
        refine hK _ _ ?_
        clear hK K
        try simp only [Act.put, qA, qB, qC]
        refine wpAnyIn_done (by kernel_rfl) ?_ _
        have HT : Hid (Went Jx (fun k => v2.ownBlock = some k) [v2] M w2 W3) := HW3
        obtain ⟨M3, hJ3, hC3, _⟩ := HT.out
        have hs3 := hC3.size
        have hs2 := HB2.out.size
        gi_wp2
        exact ⟨_, results_none rfl _ _ _, ⟨_, rfl⟩, by omega, .inr ⟨_, _, hJ3⟩⟩
       exact AllReadyIn.nil
     exact AllReadyIn.nil
    exact AllReadyIn.nil
   refine AllReadyIn.cons (o := ⟨some 7, Op.call { callee := Callee.value (Operand.func 121), args := #[Operand.tmp 6], argTypes := #[40] }, 40, _, _, none⟩) rfl (fun K hK => ?_) ?_
   ·go_simp
    refine ⟨trivial, ?_⟩
    refine CallsIn.mono (callsIn_wide.2 (recordV_any HO1.out.by_ HHL.out)) ?_
    rintro e w2 ⟨v2, rfl, ho2, hb2⟩
    have hyb2 : w2.cell? ⟨W1.heap.size, 0, none⟩ = some (.func (.yield l) #[] #[]) := (HB1.out.trans (hb2.mono HB1.out.size)).cell (lt_of_cell hyb0) |>.trans hyb0
    have HO2 := hide ho2
    have HB2 := hide (HB1.out.trans (hb2.mono HB1.out.size))
    have HBS := hide (show w1.heap.size ≤ w2.heap.size from hb2.size)
    have HBS1 := hide HB1.out.size
    clear ho2 hb2
    refine hK _ _ ?_
    clear hK K
    try simp only [Act.put, qA, qB, qC]
    refine wpAnyIn_ready (rs := [0]) (by kernel_rfl) (by simp) ?_
    refine AllReadyIn.cons (o := ⟨some 4, Op.load 168 (Operand.tmp 2), 168, _, _, none⟩) rfl (fun K hK => ?_) ?_
    ·go_simp
     refine hK _ _ ?_
     clear hK K
     try simp only [Act.put, qA, qB, qC]
     refine wpAnyIn_ready (rs := [4]) (by kernel_rfl) (by simp) ?_
     refine AllReadyIn.cons (o := ⟨some 8, Op.call { callee := Callee.value (Operand.tmp 4), args := #[Operand.tmp 7], argTypes := #[40] }, 4, _, _, none⟩) rfl (fun K hK => ?_) ?_
     ·obtain ⟨fn, tmps, assign, body, hy, hR⟩ := HYL.out v2 w2 HB2.out (by have := HBS1.out; exact HO2.out.mono this)
      go_simp
      refine (RoundIn.any hR).mono ?_
      clear hR hy
      rintro e W3 (⟨rfl, hw3⟩ | ⟨rfl, hw3⟩)
      ·have HW3 := hide (show Went J (fun k => v2.ownBlock = some k) [v2] M w2 W3 from hw3)
       clear hw3
       refine hK _ _ ?_
       clear hK K
       try simp only [Act.put, qA, qB, qC]
       refine wpAnyIn_ready (rs := [5]) (by kernel_rfl) (by simp) ?_
       refine AllReadyIn.cons (o := ⟨some 9, Op.unOp UnOp.not 4 (Operand.tmp 8), 4, _, _, none⟩) rfl (fun K hK => ?_) ?_
       ·go_simp
        refine hK _ _ ?_
        clear hK K
        try simp only [Act.put, qA, qB, qC]
        refine wpAnyIn_done (by kernel_rfl) ?_ _
        obtain ⟨M3, hJ3, hC3, hM3⟩ := HW3.out
        have hs3 := hC3.size
        have hs2 := HB2.out.size
        have hMin := HJ.out.in_ _ _ _ H0.out
        have hS3 := (HY0.out.chg (Chg.of_below HB2.out (fun _ => False)) (fun _ h => h.elim)).chg hC3 (fun k hk => (hMin k hk).1)
        have hyb3 : W3.cell? ⟨W1.heap.size, 0, none⟩ = some (.func (.yield l) #[] #[]) := hC3.cell hyb2 (fun h => by have := (hMin _ h).2; dsimp only at this; omega)
        have hnb3 : ¬ M3 W1.heap.size := fun h => by
         rcases hM3 _ h with h | h | h
         ·have := (hMin _ h).2
          omega
         ·omega
         ·have := (HO2.out.lt (by simp [recL, front]) _ h).1
          have := HBS1.out
          omega
        have HM3L := hide (fun k hk => (HJ.out.in_ _ _ _ hJ3 k hk).2)
        have HM3I := hide (fun k hk => (HJ.out.in_ _ _ _ hJ3 k hk).1)
        have hbox3 := hS3.box
        have hc3 := hS3.st.c3
        have HS3 := hide hS3
        have HJ3 := hide hJ3
        have HB3 := hide (show W1.heap.size + 1 ≤ W3.heap.size by omega)
        clear hS3 hJ3 hC3 hM3 hMin hyb2 hyb0 hbox0 hs3 hs2
        gi_wp2
        refine ⟨trivial, ?_⟩
        refine CallsIn.mono (callsIn_wide.2 chunk_any) ?_
        rintro e w' ⟨rfl, rfl⟩
        gi_wp2
        obtain ⟨W4, hW4⟩ : ∃ W4, (W3.alloc (.cells #[.slice pd nd cd] 40)).alloc (.cells #[.int .i64 512] 3) = W4 := ⟨_, rfl⟩
        have hk1 : W4.cell? ⟨W3.heap.size, 0, none⟩ = some (.slice pd nd cd) := by rw [← hW4]; simp
        have hk2 : W4.cell? ⟨W3.heap.size + 1, 0, none⟩ = some (.int .i64 512) := by
         have h1 : (W3.alloc (.cells #[.slice pd nd cd] 40)).heap.size = W3.heap.size + 1 := by simp
         rw [← hW4, ← h1]
         simp
        have hs4 : W4.heap.size = W3.heap.size + 2 := by rw [← hW4]; simp
        have hc4 : ∀ S, Chg W3 W4 S := fun S => by rw [← hW4]; exact (Chg.of_alloc _ _ S).then (Chg.of_alloc _ _ S) (fun _ h => .inl h)
        have hyb4 : W4.cell? ⟨W1.heap.size, 0, none⟩ = some (.func (.yield l) #[] #[]) := (hc4 (fun _ => False)).cell hyb3 (fun h => h)
        rw [hW4]
        have HB4 := HB3.out
        have HS4 := hide (HS3.out.chg (hc4 (fun _ => False)) (fun _ h => h.elim))
        have HJ4 := hide (HJ.out.chg _ _ _ _ HJ3.out (hc4 _))
        have HK := hide (And.intro hk1 hk2)
        clear hW4 hk1 hk2 hyb3 hbox3 hc3
        refine range_any (gf := 139) (lb := #[.pointer (some ⟨W3.heap.size, 0, none⟩), .pointer (some ⟨W3.heap.size + 1, 0, none⟩)]) rfl (enters_of Tryz.func139 (by kernel_rfl) rfl) (encs := fun x : Value => #[x]) (Y := ckY s.da) (Dn := fun pre => pre.length = s.pieces.length) (fun _ => rfl) M3 (fun k hk => by have := HM3L.out k hk; omega)
         (fun W5 hc5 hs5 => chunk_gives (hc5.cell HK.out.1 (fun h => h)) (hc5.cell HK.out.2 (fun h => h)) (By.below' HS4.out.st.by_ hc5) hds (fun h => by
           rcases h with h | h
           ·have := HM3L.out _ h; omega
           ·omega) (fun h => by
           rcases h with h | h
           ·have := HM3L.out _ h; omega
           ·omega) (fun a ha h0 => by
           subst ha
           obtain ⟨m1, m3⟩ := (HS4.out.m4.resolve_left (fun e => by have := HND.out; rw [e] at this; simp at this; omega)) a.block (by simp [Value.ownBlock])
           refine ⟨fun h => ?_, by omega⟩
           rcases h with h | h
           ·rcases HM3I.out _ h with h | h
            ·exact m1 h
            ·omega
           ·omega))
         (fun pre x N N' W o hlp hNN hy => by
          obtain ⟨r, hr⟩ := hlp
          obtain ⟨y, h1, h2⟩ := hy
          exact ⟨y, h1, h2.loop hr o⟩)
         (fun _ _ _ _ _ _ h => h.elim)
         (rcI J W1.heap.size l M3 W4.heap.size) (rcX Jx M3 W4.heap.size)
         ⟨?i1, ?i2⟩ (fun c => ⟨?x1, ?x2⟩) ⟨[v2], rfl, HJ4.out, hyb4, hnb3, fun k h => .inl h⟩
         (fun x => { tmps := #[.func (.yield l) #[] #[], .pointer (some ⟨bs, 0, none⟩), .pointer (some ⟨W1.heap.size, 0, none⟩), x, .func (.yield l) #[] #[], .pointer (some ⟨b, 0, none⟩), v1, v2, .bool true, .bool false, .pointer (some ⟨b, 0, none⟩), .pointer (some ⟨b, 0, none⟩), .pointer (some ⟨b, 0, none⟩), .pointer (some ⟨b, 3, none⟩), .slice pd nd cd, .func (.func 139) #[] #[.pointer (some ⟨W3.heap.size, 0, none⟩), .pointer (some ⟨W3.heap.size + 1, 0, none⟩)], x, undef, undef, undef, undef, undef], defers := [] })
         ?assign ?body ?done ?stop
        case i1 =>
         rintro pre N W ⟨vs, h1, h2, h3, h4, h5⟩ k hk
         exact ⟨h5 k hk, (HJ.out.in_ _ _ _ h2 k hk).2⟩
        case i2 =>
         rintro pre N W W' ⟨vs, h1, h2, h3, h4, h5⟩ hc
         exact ⟨vs, h1, HJ.out.chg _ _ _ _ h2 (hc.mono' fun k h => ⟨by omega, h.2⟩), hc.cell h3 (fun h => by dsimp only at h; omega), h4, h5⟩
        case x1 =>
         rintro pre N W ⟨rfl, vs, h2, h5⟩ k hk
         exact ⟨h5 k hk, (HJX.out.in_ _ _ _ h2 k hk).2⟩
        case x2 =>
         rintro pre N W W' ⟨rfl, vs, h2, h5⟩ hc
         exact ⟨rfl, vs, HJX.out.chg _ _ _ _ h2 (hc.mono' fun k h => ⟨by omega, h.2⟩), h5⟩
        case assign =>
         intro x W K hK
         gi_wp2
         exact hK
        case done =>
         rintro pre N W hD ⟨vs, h1, h2, h3, h4, h5⟩ hnD hsW hDef
         have hj := HJ.out.chg _ _ _ (W.putObj W4.heap.size (.deferred none)) h2 ((Chg.putObj _).mono' fun k h => by subst h; exact ⟨by omega, hnD⟩)
         have hsz : W1.heap.size ≤ (W.putObj W4.heap.size (.deferred none)).heap.size := by simp; omega
         gi_wp2
         refine ⟨by simp, .inl ⟨_, _, rfl, run_takeDeferred hDef, ?_⟩⟩
         exact ⟨_, results_none rfl _ _ _, ⟨_, rfl⟩, hsz, .inl ⟨vs, N, by rw [h1, hD]; simp [Sn.recs], hj⟩⟩
        case stop =>
         rintro c pre N W ⟨rfl, vs, h2, h5⟩ hnD hsW hDef
         have hj := HJX.out.chg _ _ _ (W.putObj W4.heap.size (.deferred none)) h2 ((Chg.putObj _).mono' fun k h => by subst h; exact ⟨by omega, hnD⟩)
         have hsz : W1.heap.size ≤ (W.putObj W4.heap.size (.deferred none)).heap.size := by simp; omega
         gi_wp2
         refine ⟨by simp, .inl ⟨_, _, rfl, run_takeDeferred hDef, ?_⟩⟩
         exact ⟨_, results_none rfl _ _ _, ⟨_, rfl⟩, hsz, .inr ⟨vs, N, hj⟩⟩
        case body =>
         rintro pre x N W ⟨vs, h1, h2, h3, h4, h5⟩ ⟨y, hy1, hy2⟩ hsW
         have hyl := piece_len (Nat.le_refl _) hy1
         have hrecs : s.recs[vs.length]? = some (recL y) := by
          rw [h1]
          show (recL s.head :: s.pieces.map recL)[pre.length + 1]? = _
          rw [List.getElem?_cons_succ, List.getElem?_map, show s.pieces[pre.length]? = some y from hy1]
          rfl
         have HNI := hide (HJ.out.in_ _ _ _ h2)
         have HYI : Hid (∀ (v4 : Value) (w4 : World), Below W.heap.size W w4 → Own W.heap.size w4 v4 (recL y) → YieldAt Fence.wide 3 Tryz.prog l #[v4] w4 fun e W' => (e = .returned (.bool true) ∧ Went J (fun k => v4.ownBlock = some k) (vs ++ [v4]) N w4 W') ∨ (e = .returned (.bool false) ∧ Went Jx (fun k => v4.ownBlock = some k) (vs ++ [v4]) N w4 W')) := hide (by
          intro v4 w4 hb4 ho4
          have hsz := hb4.size
          refine HY.out vs v4 N w4 (HJ.out.chg _ _ _ _ h2 (Chg.of_below hb4 _)) ⟨recL y, hrecs, ho4.mono (by omega), fun k hk hm => ?_⟩ (by omega)
          have e1 := (HNI.out k hm).2
          have e2 := (ho4.lt (by simp [recL, front]) k hk).1
          omega)
         have H1 := hide h1
         have H4 := hide h4
         have H5 := hide h5
         have HBYX := hide hy2
         clear h1 h4 h5 h2 hy1 hy2 hrecs
         have hsW1 : W1.heap.size < W.heap.size := by omega
         gi_wp2
         refine wpIn_region_any' (by kernel_rfl) ?_
         refine wpAnyIn_ready (rs := [0, 1]) (by kernel_rfl) (by simp) ?_
         refine AllReadyIn.cons (o := ⟨some 17, Op.load 168 (Operand.tmp 2), 168, _, _, none⟩) rfl (fun K hK => ?_) ?_
         ·go_simp
          refine hK _ _ ?_
          clear hK K
          try simp only [Act.put, qA, qB, qC]
          refine wpAnyIn_ready (rs := [1]) (by kernel_rfl) (by simp) ?_
          refine AllReadyIn.cons (o := ⟨some 18, Op.move (Operand.tmp 3), 40, _, _, none⟩) rfl (fun K hK => ?_) ?_
          ·go_simp
           refine hK _ _ ?_
           clear hK K
           try simp only [Act.put, qA, qB, qC]
           refine wpAnyIn_ready (rs := [2]) (by kernel_rfl) (by simp) ?_
           refine AllReadyIn.cons (o := ⟨some 19, Op.call { callee := Callee.value (Operand.func 121), args := #[Operand.tmp 18], argTypes := #[40] }, 40, _, _, none⟩) rfl (fun K hK => ?_) ?_
           ·go_simp
            refine ⟨trivial, ?_⟩
            refine CallsIn.mono (CallsIn.inRound _ (callsIn_wide.2 (recordV_any (HBYX.out.drewN 1) (Nat.le_trans hyl (by omega))))) ?_
            rintro e w4 ⟨v4, rfl, ho4, hb4⟩
            have hyb4' : w4.cell? ⟨W1.heap.size, 0, none⟩ = some (.func (.yield l) #[] #[]) := (hb4.cell hsW1).trans h3
            have HB4' : Hid (Below W.heap.size W w4) := hide ((below_drewN (Below.refl W.heap.size W) 1).trans hb4)
            have HO4 : Hid (Own W.heap.size w4 v4 (recL y)) := hide ho4
            clear ho4 hb4
            refine hK _ _ ?_
            clear hK K
            try simp only [Act.put, qA, qB, qC]
            refine wpAnyIn_ready (rs := [3]) (by kernel_rfl) (by simp) ?_
            refine AllReadyIn.cons (o := ⟨some 20, Op.call { callee := Callee.value (Operand.tmp 17), args := #[Operand.tmp 19], argTypes := #[40] }, 4, _, _, none⟩) rfl (fun K hK => ?_) ?_
            ·obtain ⟨fn, tmps, assign, body, hy, hR⟩ := HYI.out v4 w4 HB4'.out HO4.out
             go_simp
             refine (RoundIn.any' hR).mono ?_
             clear hR hy
             rintro e W5 (⟨rfl, hw5⟩ | ⟨rfl, hw5⟩)
             ·have HW5 := hide (show Went J (fun k => v4.ownBlock = some k) (vs ++ [v4]) N w4 W5 from hw5)
              clear hw5
              refine hK _ _ ?_
              clear hK K
              try simp only [Act.put, qA, qB, qC]
              refine wpAnyIn_ready (rs := [4]) (by kernel_rfl) (by simp) ?_
              refine AllReadyIn.cons (o := ⟨some 21, Op.unOp UnOp.not 4 (Operand.tmp 20), 4, _, _, none⟩) rfl (fun K hK => ?_) ?_
              ·go_simp
               refine hK _ _ ?_
               clear hK K
               try simp only [Act.put, qA, qB, qC]
               refine wpAnyIn_done (by kernel_rfl) ?_ _
               have hs4' := HB4'.out.size
               have hbc := Chg.of_below HB4'.out N
               obtain ⟨N5, hJ5, hC5, hN5⟩ := HW5.out
               have hcy := hC5.cell hyb4' H4.out
               gi_wp2
               exact ⟨N5, ⟨vs ++ [v4], by simp [H1.out], hJ5, hcy, fun h => by
                rcases hN5 _ h with h | h | h
                ·exact H4.out h
                ·omega
                ·have := (HO4.out.lt (by simp [recL, front]) _ h).1; omega, fun k hk => by
                rcases hN5 k hk with h | h | h
                ·exact (H5.out k h).imp id (fun h => by omega)
                ·exact .inr (by omega)
                ·exact .inr (by have := (HO4.out.lt (by simp [recL, front]) _ h).1; omega)⟩, hbc.then hC5 (fun k h => .inl h), fun k hk => by
                rcases hN5 k hk with h | h | h
                ·exact .inl h
                ·exact .inr (.inl (by omega))
                ·exact .inr (.inl (by have := (HO4.out.lt (by simp [recL, front]) _ h).1; omega))⟩
              exact AllReadyIn.nil
             ·have HW5 := hide (show Went Jx (fun k => v4.ownBlock = some k) (vs ++ [v4]) N w4 W5 from hw5)
              clear hw5
              refine hK _ _ ?_
              clear hK K
              try simp only [Act.put, qA, qB, qC]
              refine wpAnyIn_ready (rs := [4]) (by kernel_rfl) (by simp) ?_
              refine AllReadyIn.cons (o := ⟨some 21, Op.unOp UnOp.not 4 (Operand.tmp 20), 4, _, _, none⟩) rfl (fun K hK => ?_) ?_
              ·go_simp
               refine hK _ _ ?_
               clear hK K
               try simp only [Act.put, qA, qB, qC]
               refine wpAnyIn_done (by kernel_rfl) ?_ _
               have hs4' := HB4'.out.size
               have hbc := Chg.of_below HB4'.out N
               have HT : Hid (Went Jx (fun k => v4.ownBlock = some k) (vs ++ [v4]) N w4 W5) := HW5
               obtain ⟨N5, hJ5, hC5, hN5⟩ := HT.out
               gi_wp2
               exact ⟨N5, ⟨rfl, vs ++ [v4], hJ5, fun k hk => by
                rcases hN5 k hk with h | h | h
                ·exact (H5.out k h).imp id (fun h => by omega)
                ·exact .inr (by omega)
                ·exact .inr (by have := (HO4.out.lt (by simp [recL, front]) _ h).1; omega)⟩, hbc.then hC5 (fun k h => .inl h), fun k hk => by
                rcases hN5 k hk with h | h | h
                ·exact .inl h
                ·exact .inr (.inl (by omega))
                ·exact .inr (.inl (by have := (HO4.out.lt (by simp [recL, front]) _ h).1; omega))⟩
              exact AllReadyIn.nil
            exact AllReadyIn.nil
           exact AllReadyIn.nil
          exact AllReadyIn.nil
         refine AllReadyIn.cons (o := ⟨some 18, Op.move (Operand.tmp 3), 40, _, _, none⟩) rfl (fun K hK => ?_) ?_
         ·go_simp
          refine hK _ _ ?_
          clear hK K
          try simp only [Act.put, qA, qB, qC]
          refine wpAnyIn_ready (rs := [0, 2]) (by kernel_rfl) (by simp) ?_
          refine AllReadyIn.cons (o := ⟨some 17, Op.load 168 (Operand.tmp 2), 168, _, _, none⟩) rfl (fun K hK => ?_) ?_
          ·go_simp
           refine hK _ _ ?_
           clear hK K
           try simp only [Act.put, qA, qB, qC]
           refine wpAnyIn_ready (rs := [2]) (by kernel_rfl) (by simp) ?_
           refine AllReadyIn.cons (o := ⟨some 19, Op.call { callee := Callee.value (Operand.func 121), args := #[Operand.tmp 18], argTypes := #[40] }, 40, _, _, none⟩) rfl (fun K hK => ?_) ?_
           ·go_simp
            refine ⟨trivial, ?_⟩
            refine CallsIn.mono (CallsIn.inRound _ (callsIn_wide.2 (recordV_any (HBYX.out.drewN 1) (Nat.le_trans hyl (by omega))))) ?_
            rintro e w4 ⟨v4, rfl, ho4, hb4⟩
            have hyb4' : w4.cell? ⟨W1.heap.size, 0, none⟩ = some (.func (.yield l) #[] #[]) := (hb4.cell hsW1).trans h3
            have HB4' : Hid (Below W.heap.size W w4) := hide ((below_drewN (Below.refl W.heap.size W) 1).trans hb4)
            have HO4 : Hid (Own W.heap.size w4 v4 (recL y)) := hide ho4
            clear ho4 hb4
            refine hK _ _ ?_
            clear hK K
            try simp only [Act.put, qA, qB, qC]
            refine wpAnyIn_ready (rs := [3]) (by kernel_rfl) (by simp) ?_
            refine AllReadyIn.cons (o := ⟨some 20, Op.call { callee := Callee.value (Operand.tmp 17), args := #[Operand.tmp 19], argTypes := #[40] }, 4, _, _, none⟩) rfl (fun K hK => ?_) ?_
            ·obtain ⟨fn, tmps, assign, body, hy, hR⟩ := HYI.out v4 w4 HB4'.out HO4.out
             go_simp
             refine (RoundIn.any' hR).mono ?_
             clear hR hy
             rintro e W5 (⟨rfl, hw5⟩ | ⟨rfl, hw5⟩)
             ·have HW5 := hide (show Went J (fun k => v4.ownBlock = some k) (vs ++ [v4]) N w4 W5 from hw5)
              clear hw5
              refine hK _ _ ?_
              clear hK K
              try simp only [Act.put, qA, qB, qC]
              refine wpAnyIn_ready (rs := [4]) (by kernel_rfl) (by simp) ?_
              refine AllReadyIn.cons (o := ⟨some 21, Op.unOp UnOp.not 4 (Operand.tmp 20), 4, _, _, none⟩) rfl (fun K hK => ?_) ?_
              ·go_simp
               refine hK _ _ ?_
               clear hK K
               try simp only [Act.put, qA, qB, qC]
               refine wpAnyIn_done (by kernel_rfl) ?_ _
               have hs4' := HB4'.out.size
               have hbc := Chg.of_below HB4'.out N
               obtain ⟨N5, hJ5, hC5, hN5⟩ := HW5.out
               have hcy := hC5.cell hyb4' H4.out
               gi_wp2
               exact ⟨N5, ⟨vs ++ [v4], by simp [H1.out], hJ5, hcy, fun h => by
                rcases hN5 _ h with h | h | h
                ·exact H4.out h
                ·omega
                ·have := (HO4.out.lt (by simp [recL, front]) _ h).1; omega, fun k hk => by
                rcases hN5 k hk with h | h | h
                ·exact (H5.out k h).imp id (fun h => by omega)
                ·exact .inr (by omega)
                ·exact .inr (by have := (HO4.out.lt (by simp [recL, front]) _ h).1; omega)⟩, hbc.then hC5 (fun k h => .inl h), fun k hk => by
                rcases hN5 k hk with h | h | h
                ·exact .inl h
                ·exact .inr (.inl (by omega))
                ·exact .inr (.inl (by have := (HO4.out.lt (by simp [recL, front]) _ h).1; omega))⟩
              exact AllReadyIn.nil
             ·have HW5 := hide (show Went Jx (fun k => v4.ownBlock = some k) (vs ++ [v4]) N w4 W5 from hw5)
              clear hw5
              refine hK _ _ ?_
              clear hK K
              try simp only [Act.put, qA, qB, qC]
              refine wpAnyIn_ready (rs := [4]) (by kernel_rfl) (by simp) ?_
              refine AllReadyIn.cons (o := ⟨some 21, Op.unOp UnOp.not 4 (Operand.tmp 20), 4, _, _, none⟩) rfl (fun K hK => ?_) ?_
              ·go_simp
               refine hK _ _ ?_
               clear hK K
               try simp only [Act.put, qA, qB, qC]
               refine wpAnyIn_done (by kernel_rfl) ?_ _
               have hs4' := HB4'.out.size
               have hbc := Chg.of_below HB4'.out N
               have HT : Hid (Went Jx (fun k => v4.ownBlock = some k) (vs ++ [v4]) N w4 W5) := HW5
               obtain ⟨N5, hJ5, hC5, hN5⟩ := HT.out
               gi_wp2
               exact ⟨N5, ⟨rfl, vs ++ [v4], hJ5, fun k hk => by
                rcases hN5 k hk with h | h | h
                ·exact (H5.out k h).imp id (fun h => by omega)
                ·exact .inr (by omega)
                ·exact .inr (by have := (HO4.out.lt (by simp [recL, front]) _ h).1; omega)⟩, hbc.then hC5 (fun k h => .inl h), fun k hk => by
                rcases hN5 k hk with h | h | h
                ·exact .inl h
                ·exact .inr (.inl (by omega))
                ·exact .inr (.inl (by have := (HO4.out.lt (by simp [recL, front]) _ h).1; omega))⟩
              exact AllReadyIn.nil
            exact AllReadyIn.nil
           exact AllReadyIn.nil
          refine AllReadyIn.cons (o := ⟨some 19, Op.call { callee := Callee.value (Operand.func 121), args := #[Operand.tmp 18], argTypes := #[40] }, 40, _, _, none⟩) rfl (fun K hK => ?_) ?_
          ·go_simp
           refine ⟨trivial, ?_⟩
           refine CallsIn.mono (CallsIn.inRound _ (callsIn_wide.2 (recordV_any (HBYX.out.drewN 1) (Nat.le_trans hyl (by omega))))) ?_
           rintro e w4 ⟨v4, rfl, ho4, hb4⟩
           have hyb4' : w4.cell? ⟨W1.heap.size, 0, none⟩ = some (.func (.yield l) #[] #[]) := (hb4.cell hsW1).trans h3
           have HB4' : Hid (Below W.heap.size W w4) := hide ((below_drewN (Below.refl W.heap.size W) 1).trans hb4)
           have HO4 : Hid (Own W.heap.size w4 v4 (recL y)) := hide ho4
           clear ho4 hb4
           refine hK _ _ ?_
           clear hK K
           try simp only [Act.put, qA, qB, qC]
           refine wpAnyIn_ready (rs := [0]) (by kernel_rfl) (by simp) ?_
           refine AllReadyIn.cons (o := ⟨some 17, Op.load 168 (Operand.tmp 2), 168, _, _, none⟩) rfl (fun K hK => ?_) ?_
           ·go_simp
            refine hK _ _ ?_
            clear hK K
            try simp only [Act.put, qA, qB, qC]
            refine wpAnyIn_ready (rs := [3]) (by kernel_rfl) (by simp) ?_
            refine AllReadyIn.cons (o := ⟨some 20, Op.call { callee := Callee.value (Operand.tmp 17), args := #[Operand.tmp 19], argTypes := #[40] }, 4, _, _, none⟩) rfl (fun K hK => ?_) ?_
            ·obtain ⟨fn, tmps, assign, body, hy, hR⟩ := HYI.out v4 w4 HB4'.out HO4.out
             go_simp
             refine (RoundIn.any' hR).mono ?_
             clear hR hy
             rintro e W5 (⟨rfl, hw5⟩ | ⟨rfl, hw5⟩)
             ·have HW5 := hide (show Went J (fun k => v4.ownBlock = some k) (vs ++ [v4]) N w4 W5 from hw5)
              clear hw5
              refine hK _ _ ?_
              clear hK K
              try simp only [Act.put, qA, qB, qC]
              refine wpAnyIn_ready (rs := [4]) (by kernel_rfl) (by simp) ?_
              refine AllReadyIn.cons (o := ⟨some 21, Op.unOp UnOp.not 4 (Operand.tmp 20), 4, _, _, none⟩) rfl (fun K hK => ?_) ?_
              ·go_simp
               refine hK _ _ ?_
               clear hK K
               try simp only [Act.put, qA, qB, qC]
               refine wpAnyIn_done (by kernel_rfl) ?_ _
               have hs4' := HB4'.out.size
               have hbc := Chg.of_below HB4'.out N
               obtain ⟨N5, hJ5, hC5, hN5⟩ := HW5.out
               have hcy := hC5.cell hyb4' H4.out
               gi_wp2
               exact ⟨N5, ⟨vs ++ [v4], by simp [H1.out], hJ5, hcy, fun h => by
                rcases hN5 _ h with h | h | h
                ·exact H4.out h
                ·omega
                ·have := (HO4.out.lt (by simp [recL, front]) _ h).1; omega, fun k hk => by
                rcases hN5 k hk with h | h | h
                ·exact (H5.out k h).imp id (fun h => by omega)
                ·exact .inr (by omega)
                ·exact .inr (by have := (HO4.out.lt (by simp [recL, front]) _ h).1; omega)⟩, hbc.then hC5 (fun k h => .inl h), fun k hk => by
                rcases hN5 k hk with h | h | h
                ·exact .inl h
                ·exact .inr (.inl (by omega))
                ·exact .inr (.inl (by have := (HO4.out.lt (by simp [recL, front]) _ h).1; omega))⟩
              exact AllReadyIn.nil
             ·have HW5 := hide (show Went Jx (fun k => v4.ownBlock = some k) (vs ++ [v4]) N w4 W5 from hw5)
              clear hw5
              refine hK _ _ ?_
              clear hK K
              try simp only [Act.put, qA, qB, qC]
              refine wpAnyIn_ready (rs := [4]) (by kernel_rfl) (by simp) ?_
              refine AllReadyIn.cons (o := ⟨some 21, Op.unOp UnOp.not 4 (Operand.tmp 20), 4, _, _, none⟩) rfl (fun K hK => ?_) ?_
              ·go_simp
               refine hK _ _ ?_
               clear hK K
               try simp only [Act.put, qA, qB, qC]
               refine wpAnyIn_done (by kernel_rfl) ?_ _
               have hs4' := HB4'.out.size
               have hbc := Chg.of_below HB4'.out N
               have HT : Hid (Went Jx (fun k => v4.ownBlock = some k) (vs ++ [v4]) N w4 W5) := HW5
               obtain ⟨N5, hJ5, hC5, hN5⟩ := HT.out
               gi_wp2
               exact ⟨N5, ⟨rfl, vs ++ [v4], hJ5, fun k hk => by
                rcases hN5 k hk with h | h | h
                ·exact (H5.out k h).imp id (fun h => by omega)
                ·exact .inr (by omega)
                ·exact .inr (by have := (HO4.out.lt (by simp [recL, front]) _ h).1; omega)⟩, hbc.then hC5 (fun k h => .inl h), fun k hk => by
                rcases hN5 k hk with h | h | h
                ·exact .inl h
                ·exact .inr (.inl (by omega))
                ·exact .inr (.inl (by have := (HO4.out.lt (by simp [recL, front]) _ h).1; omega))⟩
              exact AllReadyIn.nil
            exact AllReadyIn.nil
           exact AllReadyIn.nil
          exact AllReadyIn.nil
         exact AllReadyIn.nil
       exact AllReadyIn.nil
      ·have HW3 := hide (show Went Jx (fun k => v2.ownBlock = some k) [v2] M w2 W3 from hw3)
       clear hw3
       refine hK _ _ ?_
       clear hK K
       try simp only [Act.put, qA, qB, qC]
       refine wpAnyIn_ready (rs := [5]) (by kernel_rfl) (by simp) ?_
       refine AllReadyIn.cons (o := ⟨some 9, Op.unOp UnOp.not 4 (Operand.tmp 8), 4, _, _, none⟩) rfl (fun K hK => ?_) ?_
       ·go_simp
        refine hK _ _ ?_
        clear hK K
        try simp only [Act.put, qA, qB, qC]
        refine wpAnyIn_done (by kernel_rfl) ?_ _
        have HT : Hid (Went Jx (fun k => v2.ownBlock = some k) [v2] M w2 W3) := HW3
        obtain ⟨M3, hJ3, hC3, _⟩ := HT.out
        have hs3 := hC3.size
        have hs2 := HB2.out.size
        gi_wp2
        exact ⟨_, results_none rfl _ _ _, ⟨_, rfl⟩, by omega, .inr ⟨_, _, hJ3⟩⟩
       exact AllReadyIn.nil
     exact AllReadyIn.nil
    exact AllReadyIn.nil
   exact AllReadyIn.nil
  exact AllReadyIn.nil
 exact AllReadyIn.nil
end Go.Proofs.YtgbdjcekpdfpjaaGreatDoor
