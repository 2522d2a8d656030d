/- Several texts made one. -/
import Derived.Test.YtgbdjcekpdfpjaaGreatDoorDSettle
import Derived.Deep.RegionWith
set_option linter.unusedVariables false
set_option linter.unusedSimpArgs false
namespace Go.Proofs.YtgbdjcekpdfpjaaGreatDoor
open Go.RowKit
theorem runs_rises {F : Fl} (hF : Rises F) (ds : List Deed) : Rises (runs F ds) := by
 unfold runs
 induction ds generalizing F with
 | nil => exact hF
 | cons d r ih => exact ih (d.rises hF 0)
theorem sizes_take_le (ds : List Deed) (i : Nat) : sizes (ds.take i) ≤ sizes ds := by
 unfold sizes
 rw [List.map_take]
 conv => rhs; rw [← List.take_append_drop i (ds.map Deed.size), List.sum_append]
 omega
theorem runs_total {F : Fl} (hF : Rises F) {ds : List Deed} (hfit : ∀ (i : Nat) (d : Deed), ds[i]? = some d → d.fits (runs F (ds.take i))) :
  ∀ i, i ≤ ds.length → total (runs F (ds.take i)) ≤ total F + sizes (ds.take i)
 | 0, _ => by simp [runs, sizes]
 | i + 1, hi => by
  have ih := runs_total hF hfit i (by omega)
  have hd : ds[i]? = some ds[i] := List.getElem?_eq_getElem (by omega)
  rw [List.take_add_one, hd]
  show total (runs F (ds.take i ++ [ds[i]])) ≤ total F + sizes (ds.take i ++ [ds[i]])
  rw [runs_snoc, sizes_snoc]
  have := Deed.total_le (runs_rises hF (ds.take i)) ds[i] (hfit i _ hd) 0
  omega
theorem settleF_ok {st : Dk} (ok : st.Ok) {K : Nat} (hK : K ≤ st.acts.length) (T : Nat) : Rises (settleF st.last st.acts K T) ∧ (settleF st.last st.acts K T).length ≤ 4096 ∧ total (settleF st.last st.acts K T) ≤ st.used := by
 unfold settleF
 by_cases h0 : K = 0
 ·rw [if_pos h0]
  refine ⟨ok.rises, by have := ok.few 0 (by omega); simpa [runs] using this, by unfold Dk.used; omega⟩
 ·rw [if_neg h0]
  have hd : st.acts[K - 1]? = some st.acts[K - 1] := List.getElem?_eq_getElem (by omega)
  rw [hd]
  simp only
  have hr := runs_rises ok.rises (st.acts.take (K - 1))
  have e : runs st.last (st.acts.take K) = (st.acts[K - 1]).run (runs st.last (st.acts.take (K - 1))) 0 := by
   have : st.acts.take K = st.acts.take (K - 1) ++ [st.acts[K - 1]] := by
    conv => lhs; rw [show K = K - 1 + 1 by omega]
    rw [List.take_add_one, hd]
    rfl
   rw [this, runs_snoc]
  refine ⟨Deed.rises hr _ _, ?_, ?_⟩
  ·rw [Deed.few hr, ← e]
   exact ok.few K hK
  ·have h1 := Deed.total_le hr st.acts[K - 1] (ok.fits _ _ hd) (min T (st.acts[K - 1]).size)
   have h2 := runs_total ok.rises ok.fits (K - 1) (by omega)
   have h3 := sizes_take_le st.acts K
   have h4 : sizes (st.acts.take K) = sizes (st.acts.take (K - 1)) + (st.acts[K - 1]).size := by
    have : st.acts.take K = st.acts.take (K - 1) ++ [st.acts[K - 1]] := by
     conv => lhs; rw [show K = K - 1 + 1 by omega]
     rw [List.take_add_one, hd]
     rfl
    rw [this, sizes_snoc]
   unfold Dk.used
   omega
def Dk.fall (st : Dk) (keep tear : Int) : Dk := { room := st.room, down := true, last := settleF st.last st.acts (min (max keep 0).toNat st.acts.length) (max tear 0).toNat, acts := [], fn := 0, keep := 0, tear := 0 }
theorem Dk.Ok.fall {st : Dk} (ok : st.Ok) (keep tear : Int) : (st.fall keep tear).Ok := by
 obtain ⟨h1, h2, h3⟩ := settleF_ok ok (K := min (max keep 0).toNat st.acts.length) (by omega) (max tear 0).toNat
 refine ⟨h1, fun i d h => by simp [Dk.fall] at h, fun i hi => ?_, ?_, ok.most, fun _ => rfl, by simp [Dk.fall], by simp [Dk.fall]⟩
 ·have : i = 0 := by simpa [Dk.fall] using hi
  subst this
  exact h2
 ·have := ok.room
  have e : (st.fall keep tear).used = total (settleF st.last st.acts (min (max keep 0).toNat st.acts.length) (max tear 0).toNat) := by simp [Dk.used, Dk.fall, sizes]
  rw [e]
  exact Nat.le_trans h3 this
def DPost (w : World) (S C : Nat → Prop) (g : Nat) (st : Dk) (w' : World) : Prop :=
 ∃ S' C', DiskIs w' S' C' g st ∧ Chg w w' S ∧ (∀ i, S' i → S i ∨ w.heap.size ≤ i) ∧ (∀ i, C' i → C i ∨ w.heap.size ≤ i)
theorem chg_set (w : World) (g i : Nat) (x : Value) : Chg w (w.setCell ⟨g, i, none⟩ x) (fun k => k = g) := Chg.of_grown (grown_set _ _ _ _) _ fun k hk => .inl (by injection hk with hk; exact hk.symm)
theorem total_mem {F : Fl} {p : List UInt8 × List UInt8} (h : p ∈ F) : p.2.length ≤ total F := by
 unfold total
 induction F with
 | nil => simp at h
 | cons q r ih =>
  rw [List.map_cons, List.sum_cons]
  rcases List.mem_cons.1 h with rfl | h
  ·omega
  ·have := ih h
   omega
set_option maxRecDepth 200000 in
set_option maxHeartbeats 4000000 in
theorem fall_any {w : World} {S C : Nat → Prop} {g : Nat} {st : Dk} (h : DiskIs w S C g st) {keep tear : Int} (hk : keep ≤ 9223372036854775807) (hk' : -9223372036854775808 ≤ keep) (ht : tear ≤ 9223372036854775807) (ht' : -9223372036854775808 ≤ tear) :
  Calls Tryz.prog 54 #[.pointer (some ⟨g, 0, none⟩), .int .i64 keep, .int .i64 tear] w fun e w' => e = .returned (.tuple #[]) ∧ DPost w S C g (st.fall keep tear) w' := by
 obtain ⟨A, L, bs, bl, a, xs, Vs, Vl, Ds, Dl, hh, hA, hL, hacts, sA, sL, sa⟩ := h.parts
 obtain ⟨p, c, rfl, hnc, hp⟩ := hacts.sl
 obtain ⟨n, hn⟩ : ∃ n, n = st.acts.length := ⟨_, rfl⟩
 rw [← hn] at hnc hp hh hacts sA sL sa
 obtain ⟨K, hK⟩ : ∃ K : Nat, K = min (max keep 0).toNat n := ⟨_, rfl⟩
 obtain ⟨T, hT⟩ : ∃ T : Nat, T = (max tear 0).toNat := ⟨_, rfl⟩
 have hnle := h.ok.many
 have eK : min (max keep 0) (n : Int) = (K : Int) := by omega
 have eT : max tear 0 = (T : Int) := by omega
 obtain ⟨F, hF⟩ : ∃ F, F = settleF st.last st.acts K T := ⟨_, rfl⟩
 obtain ⟨f1, f2, f3⟩ := settleF_ok h.ok (K := K) (by omega) T
 have h4 := h.ok.room
 have h5 := h.ok.most
 have hset := settle_any (L := L) (C := C) hh hL hacts (fun i hi h1 => h.sep i (sL i h1).1 hi) h.cap (fun i hi => h.sap i (sL i hi).1) (fun h1 => (sL g h1).2.1 rfl) (fun i hi h1 => (sL i h1).2.2 hi) h.ok.fits h.ok.few h.ok.many (keep := K) (tear := T) (by omega) (by omega)
 rw [← hF] at hset f1 f2 f3
 have c5 := hh.c5
 have HSET := hide hset
 have HK := hide eK
 have HT := hide eT
 have HN := hide hn
 have HF := hide hF
 clear hset eK eT hn hF hK hT
 go_enter Tryz.func54, Tryz.ntmps54
 go_wp2_with fail
 rw [HK.out, HT.out]
 refine HSET.out.mono ?_
 rintro e w1 ⟨rfl, V', D', hh1, hF1, hc1⟩
 have hgw := hh.lt
 have hs1 := hc1.size
 have hcl := filesClone_any hF1 (fun i hi => by
  rcases hi with hi | hi
  ·have := h.sap i (sL i hi).1
   omega
  ·exact hi.2) (by omega) (fun p hp => by have := total_mem hp; omega)
 have a3 := hh1.c3
 have HCL := hide hcl
 have HH1 := hide hh1
 have HC1 := hide hc1
 have HF1 := hide hF1
 have HD := hide h
 have HSL := hide sL
 clear hcl hh1 hc1 hF1 h c5 hh hA hL hacts sA sL sa f1 f2 f3 h4 h5
 go_wp2_with fail
 refine HCL.out.mono ?_
 rintro e w2 ⟨b', rfl, hb2, V2, D2, hF2⟩
 have hh2 := HH1.out.chg (Chg.of_below hb2 (fun _ => False)) (fun h => h)
 have q1 := hh2.c1
 have q2 := hh2.c2
 have q4 := hh2.c4
 have q6 := hh2.c6
 have q7 := hh2.c7
 have q8 := hh2.c8
 have v2 := hh2.fr 2
 have v4 := hh2.fr 4
 have v6 := hh2.fr 6
 have v7 := hh2.fr 7
 have v8 := hh2.fr 8
 have HH2 := hide hh2
 have HB2 := hide hb2
 have HF2 := hide hF2
 clear hh2 hb2 hF2 a3
 go_wp2_with fail
 go_end0
 have s4 := Hd.set HH2.out 4 (.map (some b'))
 have s6 := Hd.set s4 6 (.int .i64 0)
 have s7 := Hd.set s6 7 (.int .i64 0)
 have s8 := Hd.set s7 8 (.int .i64 0)
 have s2 := Hd.set s8 2 (.bool true)
 obtain ⟨W, hW⟩ : ∃ W, W = ((((w2.setCell ⟨g, 4, none⟩ (.map (some b'))).setCell ⟨g, 6, none⟩ (.int .i64 0)).setCell ⟨g, 7, none⟩ (.int .i64 0)).setCell ⟨g, 8, none⟩ (.int .i64 0)).setCell ⟨g, 2, none⟩ (.bool true) := ⟨_, rfl⟩
 have hcW : Chg w2 W (fun i => i = g) := by
  rw [hW]
  exact ((((chg_set _ _ _ _).trans (chg_set _ _ _ _) fun _ h => .inl h).trans (chg_set _ _ _ _) fun _ h => .inl h).trans (chg_set _ _ _ _) fun _ h => .inl h).trans (chg_set _ _ _ _) fun _ h => .inl h
 rw [← hW] at s2 ⊢
 have h := HD.out
 have hs2 := HB2.out.size
 have hsW := hcW.size
 have e0 : (st.fall keep tear).last = F := by
  show settleF st.last st.acts (min (max keep 0).toNat st.acts.length) (max tear 0).toNat = F
  have e1 := HK.out
  have e2 := HT.out
  have e3 := HN.out
  rw [HF.out, show min (max keep 0).toNat st.acts.length = K by omega, show (max tear 0).toNat = T by omega]
 have hA3 : FilesIs W (fun i => w1.heap.size ≤ i ∧ i < w2.heap.size) b' F V2 D2 := HF2.out.chg hcW fun i hi e => by omega
 have hL3 : FilesIs W (Ext L w w1) bl F V' D' := (HF1.out.chg (Chg.of_below HB2.out (fun _ => False)) fun _ _ h => h).chg hcW fun i hi e => by
  subst e
  rcases hi with hi | hi
  ·exact (HSL.out _ hi).2.1 rfl
  ·omega
 have hLlt : ∀ i, Ext L w w1 i → i < w1.heap.size := fun i hi => by
  rcases hi with hi | hi
  ·have := h.sap i (HSL.out i hi).1
   omega
  ·exact hi.2
 refine ⟨rfl, fun i => Ext L w w1 i ∨ (w1.heap.size ≤ i ∧ i < w2.heap.size) ∨ i = g, fun _ => False, ⟨h.ok.fall keep tear, fun i hi => hi.elim, fun i hi => ?_, fun i _ hi => hi, .inr (.inr rfl),
  ⟨fun i => w1.heap.size ≤ i ∧ i < w2.heap.size, Ext L w w1, b', bl, .slice none 0 0, [], V2, V', D2, D', ?_, ?_, ?_, ActsIs.nil _ _, ?_, ?_, ?_⟩⟩, ?_, ?_, fun i hi => hi.elim⟩
 ·rcases hi with hi | hi | hi
  ·have := hLlt i hi
   omega
  ·omega
  ·omega
 ·have eu : (st.fall keep tear).used = total F := by rw [← e0]; simp [Dk.used, Dk.fall, sizes]
  rw [eu]
  exact s2
 ·have es : (st.fall keep tear).seen = F := by rw [← e0]; rfl
  rw [es]
  exact hA3
 ·rw [e0]
  exact hL3
 ·exact fun i hi => ⟨.inr (.inl hi), fun hl => by have := hLlt i hl; omega, by omega, fun h => by cases h⟩
 ·exact fun i hi => ⟨.inl hi, fun e => by
   subst e
   rcases hi with hi | hi
   ·exact (HSL.out _ hi).2.1 rfl
   ·omega, fun h => by cases h⟩
 ·exact fun i hi => by cases hi
 ·refine ((HC1.out.mono (S' := S) fun i hi => ?_).trans (Chg.of_below HB2.out S) fun _ h => .inl h).trans hcW fun k hk => .inl (hk ▸ h.in_)
  rcases hi with hi | hi
  ·exact (HSL.out i hi).1
  ·exact hi ▸ h.in_
 ·intro i hi
  rcases hi with (hi | hi) | hi | hi
  ·exact .inl (HSL.out i hi).1
  ·exact .inr hi.1
  ·exact .inr (by omega)
  ·exact .inl (hi ▸ h.in_)
end Go.Proofs.YtgbdjcekpdfpjaaGreatDoor
namespace Go.Proofs.YtgbdjcekpdfpjaaGreatDoor
set_option maxRecDepth 200000
set_option maxHeartbeats 4000000
open Go.RowKit
theorem DiskIs.drewN {w : World} {S C : Nat → Prop} {g : Nat} {st : Dk} (h : DiskIs w S C g st) (q : Nat) : DiskIs (w.drewN q) S C g st := h.chg ((Chg.refl w fun _ => False).drewN q) (fun _ _ h => h) fun _ _ h => h
theorem DPost.of_drewN {w w' : World} {S C : Nat → Prop} {g : Nat} {st : Dk} {q : Nat} (h : DPost (w.drewN q) S C g st w') : DPost w S C g st w' := by
 obtain ⟨S', C', h1, h2, h3, h4⟩ := h
 exact ⟨S', C', h1, ⟨h2.os, h2.tape, h2.output, h2.size, h2.block⟩, h3, h4⟩
theorem fail_any {w : World} {S C : Nat → Prop} {g : Nat} {st : Dk} (h : DiskIs w S C g st) (hk : st.keep ≤ 9223372036854775807) (hk' : -9223372036854775808 ≤ st.keep) (ht : st.tear ≤ 9223372036854775807) (ht' : -9223372036854775808 ≤ st.tear) :
  Calls Tryz.prog 85 #[.pointer (some ⟨g, 0, none⟩)] w fun e w' => e = .returned (.int .i64 (22 : Nat)) ∧ DPost w S C g (st.fall st.keep st.tear) w' := by
 obtain ⟨A, L, bs, bl, a, xs, Vs, Vl, Ds, Dl, hh, _⟩ := h.parts
 have hf : ∀ V, (∃ q, V = w.drewN q) → Calls Tryz.prog 54 #[.pointer (some ⟨g, 0, none⟩), .int .i64 st.keep, .int .i64 st.tear] V fun e w' => e = .returned (.tuple #[]) ∧ DPost w S C g (st.fall st.keep st.tear) w' := by
  rintro V ⟨q, rfl⟩
  refine (fall_any (h.drewN q) hk hk' ht ht').mono fun e w' hp => ⟨hp.1, hp.2.of_drewN⟩
 have c7 := hh.c7
 have c8 := hh.c8
 have HF := hide hf
 clear hf hh h
 go_enter Tryz.func85, Tryz.ntmps85
 go_wp2_with fail
 go_region_with (first
  | (go_at_call 54; refine (HF.out _ (by first | exact ⟨_, rfl⟩ | exact ⟨0, rfl⟩ | exact ⟨1, rfl⟩)).mono ?_; rintro e w1 ⟨rfl, hp⟩))
 all_goals
  go_wp2
  go_ret
  exact ⟨rfl, hp⟩
def Dk.act (st : Dk) (d : Deed) : Dk := { st with acts := st.acts ++ [d], fn := st.fn - 1 }
def Dk.perf (st : Dk) (d : Deed) : Nat × Dk := if st.fn = 1 then (22, (st.act d).fall st.keep st.tear) else (0, st.act d)
theorem Dk.Ok.act {st : Dk} (ok : st.Ok) {d : Deed} (hd : d.fits st.seen) (hfew : (d.run st.seen 0).length ≤ 4096) (hroom : st.used + d.size ≤ st.room) (hdown : st.down = false) (hmany : st.acts.length < 1000000) : (st.act d).Ok := by
 have hs : (st.act d).used = st.used + d.size := by
  show total st.last + sizes (st.acts ++ [d]) = total st.last + sizes st.acts + d.size
  rw [sizes_snoc]
  omega
 refine ⟨ok.rises, fun i e he => ?_, fun i hi => ?_, ?_, ok.most, fun h => ?_, ?_, ?_⟩
 ·show e.fits (runs st.last ((st.acts ++ [d]).take i))
  have he : (st.acts ++ [d])[i]? = some e := he
  by_cases h : i < st.acts.length
  ·rw [List.getElem?_append_left h] at he
   rw [List.take_append_of_le_length (by omega)]
   exact ok.fits i e he
  ·rw [List.getElem?_append_right (by omega)] at he
   have h0 : i - st.acts.length = 0 := by
    rcases hx : i - st.acts.length with _ | m
    ·rfl
    ·rw [hx] at he
     simp at he
   have hi : i = st.acts.length := by omega
   subst hi
   simp at he
   subst he
   rw [List.take_left']
   ·exact hd
   ·rfl
 ·show (runs st.last ((st.acts ++ [d]).take i)).length ≤ 4096
  by_cases h : i ≤ st.acts.length
  ·rw [List.take_append_of_le_length h]
   exact ok.few i h
  ·have hi' : i ≤ (st.acts ++ [d]).length := hi
   rw [List.take_of_length_le (by simp at hi' ⊢; omega), runs_snoc]
   exact hfew
 ·rw [hs]
  exact hroom
 ·have : st.down = true := h
  rw [hdown] at this
  cases this
 ·show (st.acts ++ [d]).length ≤ 1000000
  simp
  omega
 ·show ((st.fn - 1 : Nat) : Int) ≤ _
  have := ok.fuse
  omega
theorem row_alloc {w : World} {n : Nat} {v : Value} {xs : List Value} (h : w.ownsRow 0 155 2 v n xs) (o : Obj) : (w.alloc o).ownsRow 0 155 2 v n xs := row_chg (S := fun _ => False) h (Chg.of_below (balloc (Below.refl _ _) o) _) fun _ _ h => h
theorem infoA : (Tryz.prog.info? 155).map (fun i => (i.zero, i.size, i.bytes)) = some (some (.agg #[.nilFunc, .int .i64 0]), 2, 16) := by kernel_rfl
theorem run_append_act {w : World} {a : Value} {n : Nat} {xs : List Value} (hrow : w.ownsRow 0 155 2 a n xs) (hn : n < 1000000) (f : Nat) (cs : Array Value) (s : Int) :
  ∃ q N c w2, (Builtin.append_ #[92, 92] 92 #[a, .slice (some ⟨w.heap.size, 0, none⟩) 1 1]).run Tryz.prog (w.alloc (.cells #[.func (.func f) #[] cs, .int .i64 s] 155)) = .ok (.slice q N c) w2 ∧
   w2.ownsRow 0 155 2 (.slice q N c) (n + 1) (xs ++ [.func (.func f) #[] cs, .int .i64 s]) ∧ Chg w w2 (fun i => a.ownBlock = some i) ∧ (∀ k, (Value.slice q N c).ownBlock = some k → a.ownBlock = some k ∨ (w.heap.size ≤ k ∧ k < w2.heap.size)) := by
 obtain ⟨i0, hi, hz0, hz1, hz2⟩ := info_parts infoA
 obtain ⟨v', w2, hr, h1, h2, h3, h4⟩ := run_append_own_at (P := Tryz.prog) (w.alloc (.cells #[.func (.func f) #[] cs, .int .i64 s] 155)) 0 92 92 155 i0 (.agg #[.nilFunc, .int .i64 0]) 2 16 Tryz.underlying92 hi hz0 hz1 hz2 rfl (by decide) a n xs (row_alloc hrow _)
  ⟨w.heap.size, 0, none⟩ 1 1 [.func (.func f) #[] cs, .int .i64 s] rfl (fun j u hj => by
   match j, hj with
   | 0, hj => simp at hj; subst hj; simp [Addr.add]
   | 1, hj => simp at hj; subst hj; simp [Addr.add]
   | (j + 2), hj => simp at hj) (fun u hu => by
   rcases List.mem_cons.1 hu with rfl | hu
   ·rfl
   ·rcases List.mem_cons.1 hu with rfl | hu
    ·rfl
    ·simp at hu) (by unfold maxLen; omega) (by omega) (Nat.zero_le _)
 obtain ⟨q, N, c, rfl⟩ : ∃ q N c, v' = .slice q N c := by
  rcases h1.2 with ⟨e, _⟩ | ⟨g, cap, cur, e, _⟩
  ·exact ⟨_, _, _, e⟩
  ·exact ⟨_, _, _, e⟩
 refine ⟨q, N, c, w2, hr, h1, (Chg.of_below (balloc (Below.refl _ _) _) _).trans (Chg.of_grown h2 (fun i => a.ownBlock = some i) fun k hk => .inl hk) fun _ h => .inl h, fun k hk => ?_⟩
 have hlt := (h1.lt k hk).2
 rw [size_alloc'] at h4
 rcases h4 with h4 | h4
 ·exact .inl (by rw [← h4, hk])
 ·rw [hk] at h4
  injection h4 with h4
  exact .inr ⟨by omega, hlt⟩
theorem DPost.after {w w1 w' : World} {S C S' : Nat → Prop} {g : Nat} {st : Dk} (h : DPost w1 S' C g st w') (hc : Chg w w1 S) (hS : ∀ i, S' i → S i ∨ w.heap.size ≤ i) : DPost w S C g st w' := by
 obtain ⟨S2, C2, h1, h2, h3, h4⟩ := h
 have hs := hc.size
 refine ⟨S2, C2, h1, hc.trans h2 hS, fun i hi => ?_, fun i hi => ?_⟩
 ·rcases h3 i hi with h | h
  ·exact hS i h
  ·exact .inr (by omega)
 ·rcases h4 i hi with h | h
  ·exact .inl h
  ·exact .inr (by omega)
theorem DiskIs.acted {w w1 w2 w3 : World} {S C A L : Nat → Prop} {g bs bl : Nat} {st : Dk} {a : Value} {xs : List Value} {Vl V2 : List UInt8 → Value} {Dl D2 : DataW Value} {d : Deed} {f : Nat} {cs : Array Value} {q : Option Addr} {N c : Nat} (h : DiskIs w S C g st) (ok : (st.act d).Ok)
  (hL : FilesIs w L bl st.last Vl Dl) (hacts : ActsIs w C a st.acts xs) (sA : ∀ i, A i → S i ∧ ¬ L i ∧ i ≠ g ∧ a.ownBlock ≠ some i) (sL : ∀ i, L i → S i ∧ i ≠ g ∧ a.ownBlock ≠ some i) (sa : ∀ i, a.ownBlock = some i → S i ∧ i ≠ g)
  (hd : DeedAt w C f cs d) (hF2 : FilesIs w1 (Ext A w w1) bs (d.run st.seen 0) V2 D2) (hc2 : Chg w w1 A) (hrow : w2.ownsRow 0 155 2 (.slice q N c) (st.acts.length + 1) (xs ++ [.func (.func f) #[] cs, .int .i64 (d.size : Nat)])) (hc3 : Chg w1 w2 (fun i => a.ownBlock = some i))
  (hb3 : ∀ k, (Value.slice q N c).ownBlock = some k → a.ownBlock = some k ∨ (w1.heap.size ≤ k ∧ k < w2.heap.size)) (hc4 : Chg w2 w3 (fun i => i = g)) (hh : Hd w3 g st.room ((st.used : Int) + (d.size : Int)) st.down (.map (some bl)) (.map (some bs)) (.slice q N c) ((st.fn - 1 : Nat) : Int) st.keep st.tear) :
  ∃ S', DiskIs w3 S' C g (st.act d) ∧ Chg w w3 S ∧ ∀ i, S' i → S i ∨ w.heap.size ≤ i := by
 have hgw : g < w.heap.size := h.sap g h.in_
 have z1 := hc2.size
 have z2 := hc3.size
 have z3 := hc4.size
 have hcw : Chg w w3 S := (((hc2.mono (S' := S) fun i hi => (sA i hi).1).trans (hc3.mono (S' := S) fun i hi => (sa i hi).1) fun _ h => .inl h).trans (hc4.mono (S' := S) fun i hi => hi ▸ h.in_) fun _ h => .inl h)
 have hcC : Chg w w3 (fun i => ¬ C i ∧ ¬ L i) := (((hc2.mono fun i hi => ⟨h.sep i (sA i hi).1, (sA i hi).2.1⟩).trans (hc3.mono (S' := fun i => ¬ C i ∧ ¬ L i) fun i hi => ⟨h.sep i (sa i hi).1, fun h1 => (sL i h1).2.2 hi⟩) fun _ h => .inl h).trans (hc4.mono (S' := fun i => ¬ C i ∧ ¬ L i) fun i hi => ⟨hi ▸ h.sep g h.in_, fun h1 => (sL i h1).2.1 hi⟩) fun _ h => .inl h)
 have hrow3 := row_chg hrow hc4 (fun k hk e => by
  subst e
  rcases hb3 k hk with h1 | h1
  ·exact (sa k h1).2 rfl
  ·omega)
 have hseen : (st.act d).seen = d.run st.seen 0 := runs_snoc _ _ _
 have hused : (((st.act d).used : Nat) : Int) = (st.used : Int) + (d.size : Int) := by
  show ((total st.last + sizes (st.acts ++ [d]) : Nat) : Int) = ((total st.last + sizes st.acts : Nat) : Int) + (d.size : Int)
  rw [sizes_snoc]
  omega
 have hxl : xs.length = st.acts.length * 2 := hacts.row.1
 refine ⟨fun i => S i ∨ (w.heap.size ≤ i ∧ i < w3.heap.size), ⟨ok, fun i hi => by have := h.cap i hi; omega, fun i hi => ?_, fun i hi hC => ?_, .inl h.in_, Ext A w w1, L, bs, bl, .slice q N c, xs ++ [.func (.func f) #[] cs, .int .i64 (d.size : Nat)], V2, Vl, D2, Dl, ?_, ?_, ?_, ⟨?_, fun e => absurd (congrArg List.length e) (by simp [Dk.act]), ?_⟩, ?_, ?_, ?_⟩, hcw, fun i hi => ?_⟩
 ·rcases hi with hi | hi
  ·have := h.sap i hi
   omega
  ·exact hi.2
 ·rcases hi with hi | hi
  ·exact h.sep i hi hC
  ·have := h.cap i hC
   omega
 ·rw [hused]
  exact hh
 ·rw [hseen]
  refine (hF2.chg hc3 fun i hi e => ?_).chg hc4 fun i hi e => ?_
  ·rcases hi with hi | hi
   ·exact (sA i hi).2.2.2 e
   ·have := h.sap i (sa i e).1
    omega
  ·rcases hi with hi | hi
   ·exact (sA i hi).2.2.1 e
   ·omega
 ·exact hL.chg hcC fun i hi h1 => h1.2 hi
 ·have : (st.act d).acts.length = st.acts.length + 1 := by simp [Dk.act]
  rw [this]
  exact hrow3
 ·intro i e he
  have he : (st.acts ++ [d])[i]? = some e := he
  by_cases hi : i < st.acts.length
  ·rw [List.getElem?_append_left hi] at he
   obtain ⟨f1, cs1, x0, x1, hd1⟩ := hacts.each i e he
   exact ⟨f1, cs1, by rw [List.getElem?_append_left (by omega)]; exact x0, by rw [List.getElem?_append_left (by omega)]; exact x1, hd1.chg hcC fun i hi h1 => h1.1 hi⟩
  ·rw [List.getElem?_append_right (by omega)] at he
   have h0 : i - st.acts.length = 0 := by
    rcases hx : i - st.acts.length with _ | m
    ·rfl
    ·rw [hx] at he
     simp at he
   have hi : i = st.acts.length := by omega
   subst hi
   simp at he
   subst he
   exact ⟨f, cs, by rw [List.getElem?_append_right (by omega), hxl, show st.acts.length * 2 - st.acts.length * 2 = 0 by omega]; rfl, by rw [List.getElem?_append_right (by omega), hxl, show st.acts.length * 2 + 1 - st.acts.length * 2 = 1 by omega]; rfl, hd.chg hcC fun i hi h1 => h1.1 hi⟩
 ·intro i hi
  rcases hi with hi | hi
  ·obtain ⟨h1, h2, h3, h4⟩ := sA i hi
   have := h.sap i h1
   exact ⟨.inl h1, h2, h3, fun e => by
    rcases hb3 i e with h5 | h5
    ·exact h4 h5
    ·omega⟩
  ·exact ⟨.inr ⟨hi.1, by omega⟩, fun h1 => by have := h.sap i (sL i h1).1; omega, by omega, fun e => by
    rcases hb3 i e with h5 | h5
    ·have := h.sap i (sa i h5).1
     omega
    ·omega⟩
 ·intro i hi
  obtain ⟨h1, h2, h3⟩ := sL i hi
  have := h.sap i h1
  exact ⟨.inl h1, h2, fun e => by
   rcases hb3 i e with h5 | h5
   ·exact h3 h5
   ·omega⟩
 ·intro i hi
  rcases hb3 i hi with h5 | h5
  ·exact ⟨.inl (sa i h5).1, (sa i h5).2⟩
  ·exact ⟨.inr ⟨by omega, by omega⟩, by omega⟩
 ·rcases hi with hi | hi
  ·exact .inl hi
  ·exact .inr hi.1
theorem perform_any {w : World} {S C : Nat → Prop} {g : Nat} {st : Dk} (h : DiskIs w S C g st) {f : Nat} {cs : Array Value} {d : Deed} (hd : DeedAt w C f cs d) (hfit : d.fits st.seen) (hfew : (d.run st.seen 0).length ≤ 4096) (hroom : st.used + d.size ≤ st.room) (hdown : st.down = false) (hmany : st.acts.length < 1000000)
  (hk : st.keep ≤ 9223372036854775807) (hk' : -9223372036854775808 ≤ st.keep) (ht : st.tear ≤ 9223372036854775807) (ht' : -9223372036854775808 ≤ st.tear) :
  Calls Tryz.prog 75 #[.pointer (some ⟨g, 0, none⟩), .int .i64 (d.size : Nat), .func (.func f) #[] cs] w fun e w' => e = .returned (.int .i64 ((st.perf d).1 : Nat)) ∧ DPost w S C g (st.perf d).2 w' := by
 obtain ⟨A, L, bs, bl, a, xs, Vs, Vl, Ds, Dl, hh, hA, hL, hacts, sA, sL, sa⟩ := h.parts
 have c4 := hh.c4
 have hdo : Calls Tryz.prog f (#[.map (some bs), .int .i64 0] ++ cs) w fun e w1 => e = .returned (.tuple #[]) ∧ ∃ V2 D2 q N c w2, FilesIs w1 (Ext A w w1) bs (d.run st.seen 0) V2 D2 ∧ Chg w w1 A ∧
   (Builtin.append_ #[92, 92] 92 #[a, .slice (some ⟨w1.heap.size, 0, none⟩) 1 1]).run Tryz.prog (w1.alloc (.cells #[.func (.func f) #[] cs, .int .i64 (d.size : Nat)] 155)) = .ok (.slice q N c) w2 ∧
   w2.ownsRow 0 155 2 (.slice q N c) (st.acts.length + 1) (xs ++ [.func (.func f) #[] cs, .int .i64 (d.size : Nat)]) ∧ Chg w1 w2 (fun i => a.ownBlock = some i) ∧ (∀ k, (Value.slice q N c).ownBlock = some k → a.ownBlock = some k ∨ (w1.heap.size ≤ k ∧ k < w2.heap.size)) := by
  have hl := (h.ok.few st.acts.length (Nat.le_refl _))
  rw [List.take_length] at hl
  refine (deed_any (tear := 0) hA (by show (runs st.last st.acts).length ≤ _; omega) hd (fun i hi h1 => h.sep i (sA i h1).1 hi) hfit (by omega)).mono ?_
  rintro e w1 ⟨rfl, V2, D2, hF2, hc2⟩
  have hrow2 := row_chg hacts.row hc2 (fun k hk h1 => (sA k h1).2.2.2 hk)
  obtain ⟨q, N, c, w2, happ, hrow3, hc3, hb3⟩ := run_append_act hrow2 hmany f cs (d.size : Nat)
  exact ⟨rfl, V2, D2, q, N, c, w2, hF2, hc2, happ, hrow3, hc3, hb3⟩
 have hok := h.ok.act hfit hfew hroom hdown hmany
 have hlit := hd.lit
 have hu : (st.used : Int) + (d.size : Int) ≤ 16777216 := by have := h.ok.most; omega
 have hfu := h.ok.fuse
 have HDO := hide hdo
 have HH := hide hh
 have HL := hide hL
 have HACTS := hide hacts
 have HD := hide h
 have HDEED := hide hd
 have HOK := hide hok
 have HSA := hide sA
 have HSL := hide sL
 have HSa := hide sa
 clear hdo hh hL hA hacts h hd hok sA sL sa hroom hfit hfew hmany
 rcases hlit with ⟨i1, i2, i3, rfl, rfl⟩ | ⟨i1, i2, rfl, rfl⟩ | ⟨i1, rfl, rfl⟩
 all_goals
  go_enter Tryz.func75, Tryz.ntmps75
  go_wp2_with fail
  refine HDO.out.mono ?_
  rintro e w1 ⟨rfl, V2, D2, q, N, c, w2, hF2, hc2, happ, hrow3, hc3, hb3⟩
  have hh2 : Hd w1 g st.room st.used st.down (.map (some bl)) (.map (some bs)) a st.fn st.keep st.tear := HH.out.chg hc2 fun h1 => (HSA.out g h1).2.2.1 rfl
  have b5 := hh2.c5
  have hh3 := hh2.chg hc3 (fun h1 => (HSa.out g h1).2 rfl)
  have z5 := hh3.fr 5
  have y5 := hh3.c5
  have z1 := hh3.fr 1
  have y1 := hh3.c1
  obtain ⟨Y, hY⟩ : ∃ Y, Y = (w2.setCell ⟨g, 5, none⟩ (.slice q N c)).setCell ⟨g, 1, none⟩ (.int .i64 ((st.used : Int) + (d.size : Int))) := ⟨_, rfl⟩
  have s5 := Hd.set hh3 5 (.slice q N c)
  have s1 : Hd _ g st.room ((st.used : Int) + (d.size : Int)) st.down (.map (some bl)) (.map (some bs)) (.slice q N c) st.fn st.keep st.tear := Hd.set s5 1 (.int .i64 ((st.used : Int) + (d.size : Int)))
  rw [← hY] at s1
  have hcY : Chg w2 Y (fun i => i = g) := by rw [hY]; exact (chg_set _ _ _ _).trans (chg_set _ _ _ _) fun _ h => .inl h
  have HS1 := hide s1
  have HCY := hide hcY
  have HF2 := hide hF2
  have HC2 := hide hc2
  have HROW := hide hrow3
  have HC3 := hide hc3
  have HB3 := hide hb3
  clear c4 s5 s1 hcY hF2 hc2 hrow3 hc3 hb3 hh2 hh3
  go_wp2_with (at_builtin; refine Lib.wpList_append_run_sl _ rfl _ _ 92 rfl _ _ rfl rfl happ ?_)
  rw [← hY]
  refine (struck_any HS1.out hfu).mono ?_
  rintro e w3 ⟨rfl, hh4, hg4⟩
  have hc4 : Chg w2 w3 (fun i => i = g) := HCY.out.trans (Chg.of_grown hg4 (fun i => i = g) fun k hk => .inl (by injection hk with hk; exact hk.symm)) fun _ h => .inl h
  obtain ⟨S', hD3, hcw, hS'⟩ := DiskIs.acted HD.out HOK.out HL.out HACTS.out HSA.out HSL.out HSa.out HDEED.out HF2.out HC2.out HROW.out HC3.out HB3.out hc4 hh4
  clear hY happ b5 z5 y5 z1 y1 hh4 hg4 hc4
  by_cases hfn : st.fn = 1
  ·rw [show (st.fn == 1) = true from beq_iff_eq.2 hfn]
   have e1 : st.perf d = (22, (st.act d).fall st.keep st.tear) := by unfold Dk.perf; rw [if_pos hfn]
   have E1 := hide e1
   have HF := hide (fail_any hD3 hk hk' ht ht')
   have HX := hide (And.intro hcw hS')
   clear hD3 hcw hS' e1
   go_wp2_with fail
   refine HF.out.mono ?_
   rintro e w4 ⟨rfl, hp⟩
   go_wp2
   go_ret
   rw [E1.out]
   exact ⟨rfl, hp.after HX.out.1 HX.out.2⟩
  ·rw [show (st.fn == 1) = false from beq_eq_false_iff_ne.2 hfn]
   have e1 : st.perf d = (0, st.act d) := by unfold Dk.perf; rw [if_neg hfn]
   have E1 := hide e1
   have HX := hide (show DPost _ S C g (st.act d) w3 from ⟨S', C, hD3, hcw, hS', fun i hi => .inl hi⟩)
   clear hD3 hcw hS' e1
   go_wp2
   go_ret
   rw [E1.out]
   exact ⟨rfl, HX.out⟩
end Go.Proofs.YtgbdjcekpdfpjaaGreatDoor
